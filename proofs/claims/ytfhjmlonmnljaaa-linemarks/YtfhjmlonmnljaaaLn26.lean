/-
  Layer 7: LineMarks.
-/
import Derived.Test.YtfhjmlonmnljaaaLn25
namespace Go.Proofs.Ytfhjmlonmnljaaa
open Go.RowKit

set_option maxHeartbeats 600000 in
set_option maxRecDepth 100000 in
theorem marks_walk (d : ByteArray) (a : Option Addr) (ca : Nat) (l : List Ln.Cl) (sf st : Int) (hn : l.length ≤ 1000000000000000) (w : World) (hrow : CRow0 w a l) :
    Calls Try.prog 6 #[.string d, .slice a l.length ca, .agg #[.int .i64 sf, .int .i64 st]] w fun e w' => VPost (.bool true) w e w' := by
  have HA : Hid (∀ W, Below w.heap.size w W → Calls Try.prog 10 #[] W fun e w' => VPost (.bool true) w e w') := fun W hW => (awake_any W).mono fun e w' ⟨h1, h2⟩ => ⟨h1, Rg.chain hW h2⟩
  have HH : Hid (∀ W, Below w.heap.size w W → Calls Try.prog 9 #[.slice a l.length ca] W fun e w' => ∃ B : Bool, e = .returned (.bool B) ∧ Hid (B = false → Light l) ∧ Below w.heap.size w w' ∧ Below W.heap.size W w') := fun W hW => (heavy_any a ca l W hn (hrow.below hW)).mono fun e w' ⟨B, h1, h2, h3⟩ => ⟨B, h1, h2, Rg.chain hW h3, h3⟩
  obtain ⟨N, hN⟩ : ∃ N, N = l.length := ⟨_, rfl⟩
  rw [← hN] at hn HH ⊢
  replace hN := Rg.hid hN
  replace hrow := Rg.hid hrow
  have kS : Rg.Bk w.heap.size [.int .i64 sf, .int .i64 st] 39 (w.alloc (.cells #[.int .i64 sf, .int .i64 st] 39)) := Rg.Bk.new rfl
  have bw0 := Rg.al1 w (.cells #[.int .i64 sf, .int .i64 st] 39)
  go_enter Try.func6, Try.ntmps6
  go_upto_region 1 with fail
  generalize w.alloc _ = w0 at *
  obtain ⟨S, hSe⟩ : ∃ S, S = w.heap.size := ⟨_, rfl⟩
  rw [← hSe] at kS ⊢
  have hSw : w.heap.size ≤ S := by omega
  clear hSe
  replace kS := Rg.hid kS
  by_cases hd : (600 : Int) < (d.size : Int)
  case pos =>
    have dd : decide ((600 : Int) < (d.size : Int)) = true := by simp only [decide_eq_true_eq]; exact hd
    clear hd
    go_wp2_with (go_at_call 9; refine (HH.out _ bw0).mono ?_)
    rintro e w1 ⟨B, rfl, hL, bH, bH'⟩
    cases B
    · go_wp2_with (go_at_call 10; refine (HA.out _ bH).mono ?_)
      rintro e w2 ⟨rfl, b2⟩
      go_wp2
      go_ret
      exact ⟨rfl, b2⟩
    · go_wp2_with (go_at_call 10; refine (HA.out _ bH).mono ?_)
      rintro e w2 ⟨rfl, b2⟩
      go_wp2
      go_ret
      exact ⟨rfl, b2⟩
  case neg =>
  have dd : decide ((600 : Int) < (d.size : Int)) = false := by simp only [decide_eq_false_iff_not]; exact hd
  have hds : d.size ≤ 600 := by omega
  clear hd
  go_wp2_with (go_at_call 9; refine (HH.out _ bw0).mono ?_)
  rintro e w1 ⟨B, rfl, hL, bH, bH'⟩
  clear HH
  cases B
  case true =>
    go_wp2_with (go_at_call 10; refine (HA.out _ bH).mono ?_)
    rintro e w2 ⟨rfl, b2⟩
    go_wp2
    go_ret
    exact ⟨rfl, b2⟩
  case false =>
  have hLt := Rg.hid (hL.out rfl)
  have kS1 := Rg.hid (kS.out.below bH' kS.out.lt)
  clear hL kS bH' bw0
  have HN : Hid (∀ W, Calls Try.prog 11 #[] W fun e w' => e = .returned (.agg #[.string ⟨#[]⟩, .int .i64 0, .slice none 0 0, .slice none 0 0, .string ⟨#[]⟩, .int .i64 0, .slice none 0 0, .slice none 0 0, .bool true]) ∧ Below W.heap.size W w') := fun W => lnew_any W
  have HS : Hid (∀ W, Calls Try.prog 18 #[.agg #[.string ⟨#[]⟩, .int .i64 0, .slice none 0 0, .slice none 0 0, .string ⟨#[]⟩, .int .i64 0, .slice none 0 0, .slice none 0 0, .bool true], .int .i64 0, .string d] W fun e w' => ∃ (x0' : ByteArray) (p0' : Int) (b0' : Option Addr) (bn0' bc0' : Nat) (g0' : Option Addr) (gn0' gc0' : Nat) (x1' : ByteArray) (p1' : Int) (b1' : Option Addr) (bn1' bc1' : Nat) (g1' : Option Addr) (gn1' gc1' : Nat) (up' : Bool), e = .returned (.tuple #[.agg #[.string x0', .int .i64 p0', .slice b0' bn0' bc0', .slice g0' gn0' gc0', .string x1', .int .i64 p1', .slice b1' bn1' bc1', .slice g1' gn1' gc1', .bool up'], .int .i64 0]) ∧ Hid (LAt w' (.agg #[.string x0', .int .i64 p0', .slice b0' bn0' bc0', .slice g0' gn0' gc0', .string x1', .int .i64 p1', .slice b1' bn1' bc1', .slice g1' gn1' gc1', .bool up']) ⟨⟨d.data.toList, 0, [], []⟩, Ln.empty, true⟩) ∧ Below W.heap.size W w') := fun W => (lsend_at (.agg #[.string ⟨#[]⟩, .int .i64 0, .slice none 0 0, .slice none 0 0, .string ⟨#[]⟩, .int .i64 0, .slice none 0 0, .slice none 0 0, .bool true]) Ln.new 0 d 0 W ⟨Ln.empty_ok _, Ln.empty_ok _⟩ (by omega) ⟨none, 0, none, 0, none, 0, none, 0, rfl, IRow.nil, Nat.le_refl _, IRow.nil, Nat.le_refl _, IRow.nil, Nat.le_refl _, IRow.nil, Nat.le_refl _⟩).mono fun e w' q => by
    have hs : Ln.send Ln.new 0 d.data.toList = (⟨⟨d.data.toList, 0, [], []⟩, Ln.empty, true⟩, 0) := by
      have : d.data.toList.length = d.size := rfl
      simp [Ln.send, Ln.new, Ln.nway, Ln.way, Ln.put, Ln.sendW, Ln.empty, this]
      omega
    rw [hs] at q
    obtain ⟨x0', p0', b0', bn0', bc0', g0', gn0', gc0', x1', p1', b1', bn1', bc1', g1', gn1', gc1', up', h1, h2, h3⟩ := q.ex
    exact ⟨x0', p0', b0', bn0', bc0', g0', gn0', gc0', x1', p1', b1', bn1', bc1', g1', gn1', gc1', up', h1, h2, h3⟩
  go_upto_region 4 with (first
    | (go_at_call 11; refine (HN.out _).mono ?_; rintro e w2 ⟨rfl, bN⟩)
    | (go_at_call 18; refine (HS.out _).mono ?_; rintro e w3 ⟨x0, p0, b0, bn0, bc0, g0, gn0, gc0, x1, p1, b1, bn1, bc1, g1, gn1, gc1, up, rfl, hS, bS⟩))
  have kV0 : Rg.Bk w3.heap.size [.string x0, .int .i64 p0, .slice b0 bn0 bc0, .slice g0 gn0 gc0, .string x1, .int .i64 p1, .slice b1 bn1 bc1, .slice g1 gn1 gc1, .bool up] 30 (w3.alloc (.cells #[.string x0, .int .i64 p0, .slice b0 bn0 bc0, .slice g0 gn0 gc0, .string x1, .int .i64 p1, .slice b1 bn1 bc1, .slice g1 gn1 gc1, .bool up] 30)) := Rg.Bk.new rfl
  have hS0 : Hid (∃ (x0' : ByteArray) (p0' : Int) (b0' : Option Addr) (bn0' bc0' : Nat) (g0' : Option Addr) (gn0' gc0' : Nat) (x1' : ByteArray) (p1' : Int) (b1' : Option Addr) (bn1' bc1' : Nat) (g1' : Option Addr) (gn1' gc1' : Nat) (up' : Bool), LAt (w3.alloc (.cells #[.string x0, .int .i64 p0, .slice b0 bn0 bc0, .slice g0 gn0 gc0, .string x1, .int .i64 p1, .slice b1 bn1 bc1, .slice g1 gn1 gc1, .bool up] 30)) (.agg #[.string x0', .int .i64 p0', .slice b0' bn0' bc0', .slice g0' gn0' gc0', .string x1', .int .i64 p1', .slice b1' bn1' bc1', .slice g1' gn1' gc1', .bool up']) ⟨⟨d.data.toList, 0, [], []⟩, Ln.empty, true⟩ ∧ Rg.Bk w3.heap.size [.string x0', .int .i64 p0', .slice b0' bn0' bc0', .slice g0' gn0' gc0', .string x1', .int .i64 p1', .slice b1' bn1' bc1', .slice g1' gn1' gc1', .bool up'] 30 (w3.alloc (.cells #[.string x0, .int .i64 p0, .slice b0 bn0 bc0, .slice g0 gn0 gc0, .string x1, .int .i64 p1, .slice b1 bn1 bc1, .slice g1 gn1 gc1, .bool up] 30))) := ⟨_, _, _, _, _, _, _, _, _, _, _, _, _, _, _, _, _, hS.out.below (Rg.al1 w3 (.cells #[.string x0, .int .i64 p0, .slice b0 bn0 bc0, .slice g0 gn0 gc0, .string x1, .int .i64 p1, .slice b1 bn1 bc1, .slice g1 gn1 gc1, .bool up] 30)), kV0⟩
  have hb0 := Rg.chain (Rg.chain (Rg.chain bH bN) bS) (Rg.al1 w3 (.cells #[.string x0, .int .i64 p0, .slice b0 bn0 bc0, .slice g0 gn0 gc0, .string x1, .int .i64 p1, .slice b1 bn1 bc1, .slice g1 gn1 gc1, .bool up] 30))
  have hVw := (Rg.chain (Rg.chain bH bN) bS).size
  have hSV : S < w3.heap.size := Nat.lt_of_lt_of_le kS1.out.lt (Rg.chain bN bS).size
  have kS2 := Rg.hid (((kS1.out.below bN kS1.out.lt).below bS (kS1.out.below bN kS1.out.lt).lt).old (.cells #[.string x0, .int .i64 p0, .slice b0 bn0 bc0, .slice g0 gn0 gc0, .string x1, .int .i64 p1, .slice b1 bn1 bc1, .slice g1 gn1 gc1, .bool up] 30))
  clear bH bN bS HN HS hS kV0 kS1
  generalize World.alloc _ _ = W0 at *
  generalize w3.heap.size = V at *
  go_wp2
  go_loopw [9, 38] (fun v9 vi wr => ∃ (i : Nat) (L : Ln.Li) (o : ByteArray), i ≤ N ∧ vi = .int .i64 i ∧ v9 = .string o ∧ Hid (Ln.Good d.data.toList o.data.toList L.a ∧ Ln.LOk (1000 + Ln.wt (l.take i) + i) L) ∧ Hid (∃ (x0' : ByteArray) (p0' : Int) (b0' : Option Addr) (bn0' bc0' : Nat) (g0' : Option Addr) (gn0' gc0' : Nat) (x1' : ByteArray) (p1' : Int) (b1' : Option Addr) (bn1' bc1' : Nat) (g1' : Option Addr) (gn1' gc1' : Nat) (up' : Bool), LAt wr (.agg #[.string x0', .int .i64 p0', .slice b0' bn0' bc0', .slice g0' gn0' gc0', .string x1', .int .i64 p1', .slice b1' bn1' bc1', .slice g1' gn1' gc1', .bool up']) L ∧ Rg.Bk V [.string x0', .int .i64 p0', .slice b0' bn0' bc0', .slice g0' gn0' gc0', .string x1', .int .i64 p1', .slice b1' bn1' bc1', .slice g1' gn1' gc1', .bool up'] 30 wr) ∧ Hid (Rg.Bk S [.int .i64 sf, .int .i64 st] 39 wr) ∧ Below w.heap.size w wr) (fun _ vi _ => N - (intOf vi).toNat)
  case atStart =>
    exact ⟨0, ⟨⟨d.data.toList, 0, [], []⟩, Ln.empty, true⟩, ⟨#[]⟩, Nat.zero_le _, rfl, rfl, ⟨Ln.Good.start _, ⟨by have : d.data.toList.length = d.size := rfl; simp only [this]; omega, by have : d.data.toList.length = d.size := rfl; simp only [this]; omega, List.Pairwise.nil, List.Pairwise.nil, (fun _ h => by cases h), (fun _ h => by cases h)⟩, Ln.empty_ok _⟩, hS0, kS2, hb0⟩
  case round =>
    obtain ⟨i, L, o, hin, rfl, rfl, hLp, hLV, hkS, hbw⟩ := hrel
    clear hb0 hS0 kS2
    obtain ⟨x0, p0, b0, bn0, bc0, g0, gn0, gc0, x1, p1, b1, bn1, bc1, g1, gn1, gc1, up, hLa, kV⟩ := hLV.out
    clear hLV
    replace hLa := Rg.hid hLa
    replace kV := Rg.hid kV
    have hwl : Ln.wt (l.take i) ≤ 75000 := by
      have h1 := Ln.wt_append (l.take i) (l.drop i)
      rw [List.take_append_drop] at h1
      have := hLt.out.wt
      omega
    have hi2 : i ≤ 200 := by have := hLt.out.len; have := hN.out; omega
    by_cases hlt : i < N
    · have hil : i < l.length := by rw [← hN.out]; exact hlt
      obtain ⟨b, o', rfl, hb, hat⟩ : ∃ b o, a = some ⟨b, o, none⟩ ∧ b < w.heap.size ∧ Rg.At w b o (callE.flat l) := by
        rcases hrow.out with h | h
        · rw [h] at hil; simp at hil
        · exact h
      have at1 : Rg.At wr b (o' + i * 5) (callE.enc l[i]) := (hat.elem hil).below hbw hb
      have hci : l[i].s.size ≤ 50000 := hLt.out.data _ (List.getElem_mem hil)
      have hwt : Ln.wt (l.take (i + 1)) = Ln.wt (l.take i) + l[i].s.size := Ln.wt_take hil
      generalize l[i] = c at *
      obtain ⟨ck, cy, ca, cm, cx⟩ := c
      obtain ⟨c0, c1, c2, c3, c4⟩ := call_at at1
      dsimp only at hci hwt
      obtain ⟨q1, q3⟩ := hLp.out
      have qn : Ln.LOk (1000 + Ln.wt (l.take (i + 1)) + (i + 1)) (Ln.play L ⟨ck, 0, ca, cm, cx⟩).1 := (Ln.play_ok q3 ⟨ck, 0, ca, cm, cx⟩).mono (by show _ + cx.size + 1 ≤ _; omega)
      have hqs : Hid (Ln.Good d.data.toList o.data.toList L.a ∧ Ln.LOk (1000 + Ln.wt (l.take (i + 1)) + (i + 1)) L) := ⟨q1, q3.mono (by omega)⟩
      have hqn : Hid (1 ≤ ck → ck ≤ 4 → ∀ t : ByteArray, t.data.toList = (Ln.play L ⟨ck, 0, ca, cm, cx⟩).2.1 → (Ln.Good d.data.toList (o ++ t).data.toList (Ln.play L ⟨ck, 0, ca, cm, cx⟩).1.a ∧ Ln.LOk (1000 + Ln.wt (l.take (i + 1)) + (i + 1)) (Ln.play L ⟨ck, 0, ca, cm, cx⟩).1) ∧ ¬ 9223372036854775807 < o.size + t.size) := fun h1 h4 t ht => by
        have g := Ln.play_good L ⟨ck, 0, ca, cm, cx⟩ h1 h4 rfl q1
        rw [← ht, ← ba_app] at g
        refine ⟨⟨g, qn⟩, ?_⟩
        have e1 := g.1
        have e2 := qn.a.size
        have e3 : (o ++ t).data.toList.length = o.size + t.size := ba_size o t
        have : Ln.wt (l.take (i + 1)) ≤ 125000 := by omega
        omega
      have HP : Hid (∀ W, LAt W (.agg #[.string x0, .int .i64 p0, .slice b0 bn0 bc0, .slice g0 gn0 gc0, .string x1, .int .i64 p1, .slice b1 bn1 bc1, .slice g1 gn1 gc1, .bool up]) L → Calls Try.prog 13 #[.agg #[.string x0, .int .i64 p0, .slice b0 bn0 bc0, .slice g0 gn0 gc0, .string x1, .int .i64 p1, .slice b1 bn1 bc1, .slice g1 gn1 gc1, .bool up], .agg #[.int .i64 ck, .int .i64 0, .int .i64 ca, .int .i64 cm, .string cx]] W fun e w' => ∃ (ss : ByteArray) (ee : Int), ∃ (x0' : ByteArray) (p0' : Int) (b0' : Option Addr) (bn0' bc0' : Nat) (g0' : Option Addr) (gn0' gc0' : Nat) (x1' : ByteArray) (p1' : Int) (b1' : Option Addr) (bn1' bc1' : Nat) (g1' : Option Addr) (gn1' gc1' : Nat) (up' : Bool), e = .returned (.tuple #[.agg #[.string x0', .int .i64 p0', .slice b0' bn0' bc0', .slice g0' gn0' gc0', .string x1', .int .i64 p1', .slice b1' bn1' bc1', .slice g1' gn1' gc1', .bool up'], .string ss, .int .i64 ee]) ∧ Hid (LAt w' (.agg #[.string x0', .int .i64 p0', .slice b0' bn0' bc0', .slice g0' gn0' gc0', .string x1', .int .i64 p1', .slice b1' bn1' bc1', .slice g1' gn1' gc1', .bool up']) (Ln.play L ⟨ck, 0, ca, cm, cx⟩).1 ∧ ss.data.toList = (Ln.play L ⟨ck, 0, ca, cm, cx⟩).2.1) ∧ Below W.heap.size W w') := fun W hW => (play_any _ L ⟨ck, 0, ca, cm, cx⟩ _ W q3 (by omega) (by show cx.size ≤ _; omega) hW).mono fun e w' ⟨v, h1, h2, h3⟩ => by
        have h4 := h2
        obtain ⟨b0, c0, g0, d0, b1, c1, g1, d1, rfl, -⟩ := h4
        exact ⟨_, _, _, _, _, _, _, _, _, _, _, _, _, _, _, _, _, _, _, h1, ⟨h2, rfl⟩, h3⟩
      have hz0 : (0 : Int) ≤ (i : Int) := by omega
      have hz1 : (i : Int) < (N : Int) := by omega
      clear q1 q3 qn hwt hwl hci at1 hat hil hLp
      go_upto_region 10 with fail
      have kO1 : Rg.Bk wr.heap.size [.int .i64 ck, .int .i64 cy, .int .i64 ca, .int .i64 cm, .string cx] 33 (wr.alloc (.cells #[.int .i64 ck, .int .i64 cy, .int .i64 ca, .int .i64 cm, .string cx] 33)) := Rg.Bk.new rfl
      have kV1 := kV.out.old (.cells #[.int .i64 ck, .int .i64 cy, .int .i64 ca, .int .i64 cm, .string cx] 33)
      have kS3 := hkS.out.old (.cells #[.int .i64 ck, .int .i64 cy, .int .i64 ca, .int .i64 cm, .string cx] 33)
      have hL1 := hLa.out.below (Rg.al1 wr (.cells #[.int .i64 ck, .int .i64 cy, .int .i64 ca, .int .i64 cm, .string cx] 33))
      have hb1 := Rg.chain hbw (Rg.al1 wr (.cells #[.int .i64 ck, .int .i64 cy, .int .i64 ca, .int .i64 cm, .string cx] 33))
      have hVO : V ≠ wr.heap.size := by have := kV.out.lt; omega
      have hSO : S ≠ wr.heap.size := by have := hkS.out.lt; omega
      have hOw := hbw.size
      clear c0 c1 c2 c3 c4 kV hLa hbw hkS
      generalize World.alloc _ _ = w4 at *
      generalize wr.heap.size = O at *
      have kO2 : Rg.Bk O [.int .i64 ck, .int .i64 0, .int .i64 ca, .int .i64 cm, .string cx] 33 (w4.setCell ⟨O, 1, none⟩ (.int .i64 0)) := kO1.set 1 (.int .i64 0)
      have o2 := Rg.Only.setCell w4 O 1 (.int .i64 0)
      have kV2 := Rg.hid (kV1.same (o2.block V hVO))
      have kS4 := Rg.hid (kS3.same (o2.block S hSO))
      have hL2 := Rg.hid (hL1.only kO1 op_int o2)
      have hb2 := hb1.trans (o2.bel hOw)
      have y1 : w4.cell? ⟨O, 1, none⟩ = some (.int .i64 cy) := kO1.cell 1
      have yf := kO1.thaw
      replace kO2 := Rg.hid kO2
      clear kO1 o2 kV1 hL1 hb1 kS3
      go_upto_region 11 with fail
      clear y1 yf
      generalize World.setCell _ _ _ = w5 at *
      have s0 : w5.cell? ⟨O, 0, none⟩ = some (.int .i64 ck) := kO2.out.cell 0
      by_cases hk : 1 ≤ ck ∧ ck ≤ 4
      · have dk : decide (ck < 1) = false := by simp only [decide_eq_false_iff_not]; omega
        have dk2 : decide (4 < ck) = false := by simp only [decide_eq_false_iff_not]; omega
        have hqn2 := Rg.hid (hqn.out hk.1 hk.2)
        clear hk hqn hqs
        have s1 : w5.cell? ⟨O, 1, none⟩ = some (.int .i64 0) := kO2.out.cell 1
        have s2 : w5.cell? ⟨O, 2, none⟩ = some (.int .i64 ca) := kO2.out.cell 2
        have s3 : w5.cell? ⟨O, 3, none⟩ = some (.int .i64 cm) := kO2.out.cell 3
        have s4 : w5.cell? ⟨O, 4, none⟩ = some (.string cx) := kO2.out.cell 4
        have z0 : w5.cell? ⟨V, 0, none⟩ = some (.string x0) := kV2.out.cell 0
        have z1 : w5.cell? ⟨V, 1, none⟩ = some (.int .i64 p0) := kV2.out.cell 1
        have z2 : w5.cell? ⟨V, 2, none⟩ = some (.slice b0 bn0 bc0) := kV2.out.cell 2
        have z3 : w5.cell? ⟨V, 3, none⟩ = some (.slice g0 gn0 gc0) := kV2.out.cell 3
        have z4 : w5.cell? ⟨V, 4, none⟩ = some (.string x1) := kV2.out.cell 4
        have z5 : w5.cell? ⟨V, 5, none⟩ = some (.int .i64 p1) := kV2.out.cell 5
        have z6 : w5.cell? ⟨V, 6, none⟩ = some (.slice b1 bn1 bc1) := kV2.out.cell 6
        have z7 : w5.cell? ⟨V, 7, none⟩ = some (.slice g1 gn1 gc1) := kV2.out.cell 7
        have z8 : w5.cell? ⟨V, 8, none⟩ = some (.bool up) := kV2.out.cell 8
        go_upto_region 13 with (go_at_call 13; refine (HP.out _ hL2.out).mono ?_; rintro e w6 ⟨ss, ee, x0', p0', b0', bn0', bc0', g0', gn0', gc0', x1', p1', b1', bn1', bc1', g1', gn1', gc1', up', rfl, hL6, b6⟩)
        have kV6 := (kV2.out.below b6 kV2.out.lt).old (.cells #[.string x0', .int .i64 p0', .slice b0' bn0' bc0', .slice g0' gn0' gc0', .string x1', .int .i64 p1', .slice b1' bn1' bc1', .slice g1' gn1' gc1', .bool up'] 30)
        have kS6 := (kS4.out.below b6 kS4.out.lt).old (.cells #[.string x0', .int .i64 p0', .slice b0' bn0' bc0', .slice g0' gn0' gc0', .string x1', .int .i64 p1', .slice b1' bn1' bc1', .slice g1' gn1' gc1', .bool up'] 30)
        have kX6 : Rg.Bk w6.heap.size [.string x0', .int .i64 p0', .slice b0' bn0' bc0', .slice g0' gn0' gc0', .string x1', .int .i64 p1', .slice b1' bn1' bc1', .slice g1' gn1' gc1', .bool up'] 30 (w6.alloc (.cells #[.string x0', .int .i64 p0', .slice b0' bn0' bc0', .slice g0' gn0' gc0', .string x1', .int .i64 p1', .slice b1' bn1' bc1', .slice g1' gn1' gc1', .bool up'] 30)) := Rg.Bk.new rfl
        have hb6 := Rg.chain (Rg.chain hb2 b6) (Rg.al1 w6 (.cells #[.string x0', .int .i64 p0', .slice b0' bn0' bc0', .slice g0' gn0' gc0', .string x1', .int .i64 p1', .slice b1' bn1' bc1', .slice g1' gn1' gc1', .bool up'] 30))
        have hL6a := hL6.out.1.below (Rg.al1 w6 (.cells #[.string x0', .int .i64 p0', .slice b0' bn0' bc0', .slice g0' gn0' gc0', .string x1', .int .i64 p1', .slice b1' bn1' bc1', .slice g1' gn1' gc1', .bool up'] 30))
        obtain ⟨hq7, hmm⟩ := hqn2.out ss hL6.out.2
        replace hq7 := Rg.hid hq7
        have hVX : V ≠ w6.heap.size := by have := (kV2.out.below b6 kV2.out.lt).lt; omega
        clear z0 z1 z2 z3 z4 z5 z6 z7 z8 s0 s1 s2 s3 s4 kO2 HP hL2 kV2 kS4 b6 hb2 hL6 hqn2
        generalize World.alloc _ _ = w7 at *
        generalize w6.heap.size = X at *
        obtain ⟨kV7, o7⟩ := ret9 kV6 rfl (.string x0') (.int .i64 p0') (.slice b0' bn0' bc0') (.slice g0' gn0' gc0') (.string x1') (.int .i64 p1') (.slice b1' bn1' bc1') (.slice g1' gn1' gc1') (.bool up')
        have hL7 := hL6a.only kV6 line_int o7
        have hb7 := hb6.trans (o7.bel hVw)
        have kS7 := Rg.hid (kS6.same (o7.block S (by omega)))
        have hL7' : Hid (∃ (x0' : ByteArray) (p0' : Int) (b0' : Option Addr) (bn0' bc0' : Nat) (g0' : Option Addr) (gn0' gc0' : Nat) (x1' : ByteArray) (p1' : Int) (b1' : Option Addr) (bn1' bc1' : Nat) (g1' : Option Addr) (gn1' gc1' : Nat) (up' : Bool), LAt _ (.agg #[.string x0', .int .i64 p0', .slice b0' bn0' bc0', .slice g0' gn0' gc0', .string x1', .int .i64 p1', .slice b1' bn1' bc1', .slice g1' gn1' gc1', .bool up']) (Ln.play L ⟨ck, 0, ca, cm, cx⟩).1 ∧ Rg.Bk V [.string x0', .int .i64 p0', .slice b0' bn0' bc0', .slice g0' gn0' gc0', .string x1', .int .i64 p1', .slice b1' bn1' bc1', .slice g1' gn1' gc1', .bool up'] 30 _) := ⟨_, _, _, _, _, _, _, _, _, _, _, _, _, _, _, _, _, hL7, kV7⟩
        have z0 : w7.cell? ⟨X, 0, none⟩ = some (.string x0') := kX6.cell 0
        have z1 : w7.cell? ⟨X, 1, none⟩ = some (.int .i64 p0') := kX6.cell 1
        have z2 : w7.cell? ⟨X, 2, none⟩ = some (.slice b0' bn0' bc0') := kX6.cell 2
        have z3 : w7.cell? ⟨X, 3, none⟩ = some (.slice g0' gn0' gc0') := kX6.cell 3
        have z4 : w7.cell? ⟨X, 4, none⟩ = some (.string x1') := kX6.cell 4
        have z5 : w7.cell? ⟨X, 5, none⟩ = some (.int .i64 p1') := kX6.cell 5
        have z6 : w7.cell? ⟨X, 6, none⟩ = some (.slice b1' bn1' bc1') := kX6.cell 6
        have z7 : w7.cell? ⟨X, 7, none⟩ = some (.slice g1' gn1' gc1') := kX6.cell 7
        have z8 : w7.cell? ⟨X, 8, none⟩ = some (.bool up') := kX6.cell 8
        have r0 : w7.cell? ⟨V, 0, none⟩ = some (.string x0) := kV6.cell 0
        have r1 : w7.cell? ⟨V, 1, none⟩ = some (.int .i64 p0) := kV6.cell 1
        have r2 : w7.cell? ⟨V, 2, none⟩ = some (.slice b0 bn0 bc0) := kV6.cell 2
        have r3 : w7.cell? ⟨V, 3, none⟩ = some (.slice g0 gn0 gc0) := kV6.cell 3
        have r4 : w7.cell? ⟨V, 4, none⟩ = some (.string x1) := kV6.cell 4
        have r5 : w7.cell? ⟨V, 5, none⟩ = some (.int .i64 p1) := kV6.cell 5
        have r6 : w7.cell? ⟨V, 6, none⟩ = some (.slice b1 bn1 bc1) := kV6.cell 6
        have r7 : w7.cell? ⟨V, 7, none⟩ = some (.slice g1 gn1 gc1) := kV6.cell 7
        have r8 : w7.cell? ⟨V, 8, none⟩ = some (.bool up) := kV6.cell 8
        have rf := kV6.thaw
        clear kV6 kV7 hL7 hL6a hb6 o7 kX6 kS6
        go_upto_region 14 with fail
        generalize World.setCell _ _ _ = w8 at *
        clear z0 z1 z2 z3 z4 z5 z6 z7 z8 r0 r1 r2 r3 r4 r5 r6 r7 r8 rf hVX
        go_wp2
        go_roundw
        case rel => exact ⟨i + 1, _, o ++ ss, by omega, by go_num, rfl, hq7, hL7', kS7, hb7⟩
        case measure => simp [intOf]; omega
      · have hL7' : Hid (∃ (x0' : ByteArray) (p0' : Int) (b0' : Option Addr) (bn0' bc0' : Nat) (g0' : Option Addr) (gn0' gc0' : Nat) (x1' : ByteArray) (p1' : Int) (b1' : Option Addr) (bn1' bc1' : Nat) (g1' : Option Addr) (gn1' gc1' : Nat) (up' : Bool), LAt w5 (.agg #[.string x0', .int .i64 p0', .slice b0' bn0' bc0', .slice g0' gn0' gc0', .string x1', .int .i64 p1', .slice b1' bn1' bc1', .slice g1' gn1' gc1', .bool up']) L ∧ Rg.Bk V [.string x0', .int .i64 p0', .slice b0' bn0' bc0', .slice g0' gn0' gc0', .string x1', .int .i64 p1', .slice b1' bn1' bc1', .slice g1' gn1' gc1', .bool up'] 30 w5) := ⟨_, _, _, _, _, _, _, _, _, _, _, _, _, _, _, _, _, hL2.out, kV2.out⟩
        clear hqn HP hL2 kV2
        by_cases hk1 : ck < 1
        · have dk : decide (ck < 1) = true := by simp only [decide_eq_true_eq]; exact hk1
          clear hk
          go_wp2
          go_roundw
          case rel => exact ⟨i + 1, L, o, by omega, by go_num, rfl, hqs, hL7', kS4, hb2⟩
          case measure => simp [intOf]; omega
        · have dk : decide (ck < 1) = false := by simp only [decide_eq_false_iff_not]; exact hk1
          have dk2 : decide (4 < ck) = true := by simp only [decide_eq_true_eq]; omega
          clear hk
          go_wp2
          go_roundw
          case rel => exact ⟨i + 1, L, o, by omega, by go_num, rfl, hqs, hL7', kS4, hb2⟩
          case measure => simp [intOf]; omega
    · obtain rfl : i = N := by omega
      obtain ⟨q1, q3⟩ := hLp.out
      have hfx := q3.a.full
      have hsx := q3.a.size
      have htk : Ln.take L 0 1073741824 = (Ln.put L 0 (Ln.takeW L.a L.a.x.length), L.a.x) := by
        have hm : Ln.much 1073741824 L.a.x.length = L.a.x.length := by unfold Ln.much; omega
        rw [Ln.take, if_neg (by intro q; rcases q with q | q; (· revert q; decide); omega), Ln.way, if_pos rfl, hm, List.take_of_length_le (Nat.le_refl _)]
      have q4 := Ln.take_ok q3 0 1073741824
      obtain ⟨t, ht⟩ : ∃ t : ByteArray, t = ⟨L.a.x.toArray⟩ := ⟨_, rfl⟩
      have hts : t.data.toList = L.a.x := by rw [ht]
      have hot : (o ++ t).size = L.a.p + L.a.x.length := by have e1 := ba_size o t; have e2 : t.size = L.a.x.length := (by rw [ht]; exact ba_sz _); have := q1.1; have e : o.data.toList.length = o.size := rfl; omega
      have hmm : ¬ 9223372036854775807 < o.size + t.size := by rw [← ba_size, hot]; omega
      have hSr : Hid (∀ F E : Nat, F ≤ E → E ≤ (o ++ t).size → Ln.clean (Ln.take L 0 1073741824).1 0 F E = true → ∃ k, k + (E - F) ≤ d.size ∧ d.extract k (k + (E - F)) = (o ++ t).extract F E) := fun F E h1 h2 h3 => by
        obtain ⟨_, sr, hsr⟩ := q1
        rw [htk] at h3
        simp only [Ln.clean, Ln.put, Ln.way, Ln.cleanW, Ln.takeW, if_pos, Bool.and_eq_true, Bool.not_eq_true', List.any_eq_false, decide_eq_true_eq] at h3
        have hT : (o ++ t).data.toList = o.data.toList ++ L.a.x := by rw [ba_app, hts]
        have hTl : (o ++ t).data.toList.length = (o ++ t).size := rfl
        obtain ⟨k, k1, k2⟩ := hsr.part F (E - F) (by rw [← hT, hTl]; omega) (fun y hy e => h3.2.1 y hy (by omega)) (fun y hy e => h3.2.2 y hy (by omega))
        refine ⟨k, k1, ba_ext ?_⟩
        simp only [ByteArray.data_extract, Array.toList_extract, List.extract_eq_take_drop, hT]
        rw [Nat.add_sub_cancel_left]
        exact k2
      have HT : Hid (∀ W, LAt W (.agg #[.string x0, .int .i64 p0, .slice b0 bn0 bc0, .slice g0 gn0 gc0, .string x1, .int .i64 p1, .slice b1 bn1 bc1, .slice g1 gn1 gc1, .bool up]) L → Calls Try.prog 19 #[.agg #[.string x0, .int .i64 p0, .slice b0 bn0 bc0, .slice g0 gn0 gc0, .string x1, .int .i64 p1, .slice b1 bn1 bc1, .slice g1 gn1 gc1, .bool up], .int .i64 0, .int .i64 1073741824] W fun e w' => ∃ (x0' : ByteArray) (p0' : Int) (b0' : Option Addr) (bn0' bc0' : Nat) (g0' : Option Addr) (gn0' gc0' : Nat) (x1' : ByteArray) (p1' : Int) (b1' : Option Addr) (bn1' bc1' : Nat) (g1' : Option Addr) (gn1' gc1' : Nat) (up' : Bool), e = .returned (.tuple #[.agg #[.string x0', .int .i64 p0', .slice b0' bn0' bc0', .slice g0' gn0' gc0', .string x1', .int .i64 p1', .slice b1' bn1' bc1', .slice g1' gn1' gc1', .bool up'], .string t]) ∧ Hid (LAt w' (.agg #[.string x0', .int .i64 p0', .slice b0' bn0' bc0', .slice g0' gn0' gc0', .string x1', .int .i64 p1', .slice b1' bn1' bc1', .slice g1' gn1' gc1', .bool up']) (Ln.take L 0 1073741824).1) ∧ Below W.heap.size W w') := fun W hW => (ltake_at _ L 0 1073741824 _ W q3 (by omega) hW).mono fun e w' q => by
        obtain ⟨x0', p0', b0', bn0', bc0', g0', gn0', gc0', x1', p1', b1', bn1', bc1', g1', gn1', gc1', up', h1, h2, h3⟩ := q.ex
        exact ⟨x0', p0', b0', bn0', bc0', g0', gn0', gc0', x1', p1', b1', bn1', bc1', g1', gn1', gc1', up', by rw [h1, ht, htk], h2, h3⟩
      have HCl : Hid (∀ W v (F E : Int), LAt W v (Ln.take L 0 1073741824).1 → Calls Try.prog 16 #[v, .int .i64 0, .agg #[.int .i64 F, .int .i64 E]] W fun e w' => VPost (.bool (Ln.clean (Ln.take L 0 1073741824).1 0 F E)) W e w') := fun W v F E hv => lclean_at v _ 0 F E _ W q4 (by omega) hv
      generalize (Ln.take L 0 1073741824).1 = L2 at *
      have hM0 : (o ++ t).size ≤ 100000000 := by rw [hot]; omega
      have z0 : wr.cell? ⟨V, 0, none⟩ = some (.string x0) := kV.out.cell 0
      have z1 : wr.cell? ⟨V, 1, none⟩ = some (.int .i64 p0) := kV.out.cell 1
      have z2 : wr.cell? ⟨V, 2, none⟩ = some (.slice b0 bn0 bc0) := kV.out.cell 2
      have z3 : wr.cell? ⟨V, 3, none⟩ = some (.slice g0 gn0 gc0) := kV.out.cell 3
      have z4 : wr.cell? ⟨V, 4, none⟩ = some (.string x1) := kV.out.cell 4
      have z5 : wr.cell? ⟨V, 5, none⟩ = some (.int .i64 p1) := kV.out.cell 5
      have z6 : wr.cell? ⟨V, 6, none⟩ = some (.slice b1 bn1 bc1) := kV.out.cell 6
      have z7 : wr.cell? ⟨V, 7, none⟩ = some (.slice g1 gn1 gc1) := kV.out.cell 7
      have z8 : wr.cell? ⟨V, 8, none⟩ = some (.bool up) := kV.out.cell 8
      clear q1 q3 q4 htk hts hot hwl hLp hrow hLt hfx hsx
      replace ht := Rg.hid ht
      go_upto_region 17 with (go_at_call 19; refine (HT.out _ hLa.out).mono ?_; rintro e w2 ⟨x0', p0', b0', bn0', bc0', g0', gn0', gc0', x1', p1', b1', bn1', bc1', g1', gn1', gc1', up', rfl, hT2, b2⟩; have kV2 := kV.out.below b2 kV.out.lt; have kS2 := Rg.hid (hkS.out.below b2 hkS.out.lt); have hb2 := Rg.hid (Rg.chain hbw b2); have r0 := kV2.cell 0; have r1 := kV2.cell 1; have r2 := kV2.cell 2; have r3 := kV2.cell 3; have r4 := kV2.cell 4; have r5 := kV2.cell 5; have r6 := kV2.cell 6; have r7 := kV2.cell 7; have r8 := kV2.cell 8; have rf := kV2.thaw; simp only [List.getElem?_cons_zero, List.getElem?_cons_succ] at r0 r1 r2 r3 r4 r5 r6 r7 r8)
      obtain ⟨kV3, o3⟩ := ret9 kV2 rfl (.string x0') (.int .i64 p0') (.slice b0' bn0' bc0') (.slice g0' gn0' gc0') (.string x1') (.int .i64 p1') (.slice b1' bn1' bc1') (.slice g1' gn1' gc1') (.bool up')
      have hL3 := Rg.hid (hT2.out.only kV2 line_int o3)
      have kS3 := Rg.hid (kS2.out.same (o3.block S (by omega)))
      have hb3 := hb2.out.trans (o3.bel hVw)
      replace kV3 := Rg.hid kV3
      clear z0 z1 z2 z3 z4 z5 z6 z7 z8 r0 r1 r2 r3 r4 r5 r6 r7 r8 rf kV2 kS2 hb2 hT2 o3 HT hLa kV hbw hkS
      generalize World.setCell _ _ _ = w3' at *
      go_upto_region 18 with fail
      generalize o ++ t = O2 at *
      clear ht hmm
      have e0 : w3'.cell? ⟨S, 0, none⟩ = some (.int .i64 sf) := kS3.out.cell 0
      have e1 : w3'.cell? ⟨S, 1, none⟩ = some (.int .i64 st) := kS3.out.cell 1
      obtain ⟨F, D, G, E, U1, U2, Z1, D1, hU1, hU2, hF, hG, v1, v1', v2, v3, n1, v4, v4', v5, v5', v6, v7, n2, v8, v8', hFE, hEM, hEF⟩ := Ln.spans sf st O2.size hM0
      replace hEF := Rg.hid hEF
      have n1' : ¬ Z1 = 0 := by simpa using n1
      have n2' : ¬ D1 = 0 := by simpa using n2
      have m1 : decide (Z1 = 0) = false := by simp only [decide_eq_false_iff_not]; exact n1'
      have m2 : decide (D1 = 0) = false := by simp only [decide_eq_false_iff_not]; exact n2'
      go_upto_region 19 with fail
      go_upto_region 20 with fail
      clear e0 e1 hU1 hU2 hF hG v1 v1' v2 v3 v4 v4' v5 v5' v6 v7 v8 v8' n1 n2 n1' n2' m1 m2
      have z0 : w3'.cell? ⟨V, 0, none⟩ = some (.string x0') := kV3.out.cell 0
      have z1 : w3'.cell? ⟨V, 1, none⟩ = some (.int .i64 p0') := kV3.out.cell 1
      have z2 : w3'.cell? ⟨V, 2, none⟩ = some (.slice b0' bn0' bc0') := kV3.out.cell 2
      have z3 : w3'.cell? ⟨V, 3, none⟩ = some (.slice g0' gn0' gc0') := kV3.out.cell 3
      have z4 : w3'.cell? ⟨V, 4, none⟩ = some (.string x1') := kV3.out.cell 4
      have z5 : w3'.cell? ⟨V, 5, none⟩ = some (.int .i64 p1') := kV3.out.cell 5
      have z6 : w3'.cell? ⟨V, 6, none⟩ = some (.slice b1' bn1' bc1') := kV3.out.cell 6
      have z7 : w3'.cell? ⟨V, 7, none⟩ = some (.slice g1' gn1' gc1') := kV3.out.cell 7
      have z8 : w3'.cell? ⟨V, 8, none⟩ = some (.bool up') := kV3.out.cell 8
      have hSr2 := Rg.hid (hSr.out F E hFE hEM)
      have HC2 := Rg.hid (HCl.out w3' (.agg #[.string x0', .int .i64 p0', .slice b0' bn0' bc0', .slice g0' gn0' gc0', .string x1', .int .i64 p1', .slice b1' bn1' bc1', .slice g1' gn1' gc1', .bool up']) F E hL3.out)
      clear hSr HCl
      generalize Ln.clean L2 0 F E = B at *
      cases B
      case false =>
        go_wp2_with (first
          | (go_at_call 16; refine HC2.out.mono ?_; rintro e w4 ⟨rfl, b4⟩)
          | (go_at_call 10; refine (HA.out _ (Rg.chain hb3 b4)).mono ?_; rintro e w5 ⟨rfl, b5⟩))
        go_ret
        exact ⟨rfl, b5⟩
      case true =>
        obtain ⟨K, hK1, hK2⟩ := hSr2.out rfl
        rw [hEF.out] at hK1 hK2
        have hPs : (O2.extract F E).size = G := by have := hEF.out; simp; omega
        have hFE' : (F : Int) ≤ (E : Int) := by omega
        have hEM' : (E : Int) ≤ (O2.size : Int) := by omega
        go_upto_region 23 with (go_at_call 16; refine HC2.out.mono ?_; rintro e w4 ⟨rfl, b4⟩)
        have hb4 := Rg.chain hb3 b4
        clear z0 z1 z2 z3 z4 z5 z6 z7 z8 b4 hb3 HC2 hSr2 hL3 kV3 kS3
        rw [← hPs] at hK1 hK2
        generalize O2.extract F E = Pt at *
        clear hPs hEF hFE hEM hFE' hEM' hM0
        replace hK2 := Rg.hid hK2
        go_wp2
        go_loopw [19] (fun vk wx => ∃ k : Nat, k ≤ K ∧ vk = .int .i64 k ∧ Below w.heap.size w wx) (fun vk _ => K - (intOf vk).toNat)
        case atStart => exact ⟨0, Nat.zero_le _, rfl, hb4⟩
        case round =>
          obtain ⟨k, hkK, rfl, hbk⟩ := hrel
          clear hb4
          obtain ⟨H, v1, v1', d1, g1, g2, hne, hkb⟩ := Ln.find d Pt K k hkK hK1 hds hK2.out
          replace hne := Rg.hid hne
          cases hq : ((d.extract k H).toList == Pt.toList)
          · have hlt2 : k < K := hne.out hq
            clear hne
            go_wp2
            go_roundw
            case rel => exact ⟨k + 1, by omega, by go_num, hbk⟩
            case measure => simp [intOf]; omega
          · clear hne
            go_wp2_with (go_at_call 10; refine (HA.out _ hbk).mono ?_)
            rintro e w5 ⟨rfl, b5⟩
            go_wp2
            go_ret
            exact ⟨rfl, b5⟩
end Go.Proofs.Ytfhjmlonmnljaaa
