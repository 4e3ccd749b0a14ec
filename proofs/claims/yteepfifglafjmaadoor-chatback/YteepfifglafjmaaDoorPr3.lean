/-
  Layer 8: putStep.
-/
import Derived.Test.YteepfifglafjmaaDoorPr2
import Derived.Test.YteepfifglafjmaaDoorCh23
namespace Go.Proofs.YteepfifglafjmaaDoor
open Go.RowKit

/-- a row of texts that stays while bytes are appended -/
def SRowK (base : Nat) (W : World) (a : Option Addr) (l : List ByteArray) : Prop := l = [] ∨ ∃ b o, a = some ⟨b, o, none⟩ ∧ b < W.heap.size ∧ Rg.At W b o (strE.flat l) ∧ (b < base ∨ ∃ ob, W.heap[b]? = some ob ∧ ∀ C, ob ≠ Obj.cells C 5 (0, 0))
theorem SRowK.keep {base : Nat} {W W' : World} {a : Option Addr} {l : List ByteArray} (h : SRowK base W a l) (hb : Below base W W') (hk : Keep W W') : SRowK base W' a l := by
  rcases h with h | ⟨b, o, h1, h0, h2, h3⟩
  · exact .inl h
  · refine .inr ⟨b, o, h1, Nat.lt_of_lt_of_le h0 hb.size, ?_, ?_⟩
    · rcases h3 with h3 | ⟨ob, h3, h4⟩
      · exact h2.below hb h3
      · exact h2.same ((hk b ob h3 h4).trans h3.symm)
    · rcases h3 with h3 | ⟨ob, h3, h4⟩
      · exact .inl h3
      · exact .inr ⟨ob, hk b ob h3 h4, h4⟩
theorem SRowK.cell {base : Nat} {W : World} {a : Option Addr} {l : List ByteArray} (h : SRowK base W a l) {i : Nat} (hi : i < l.length) : ∃ b o, a = some ⟨b, o, none⟩ ∧ ∀ W', SRowK base W' a l → W'.cell? ⟨b, o + i, none⟩ = some (.string l[i]) := by
  rcases h with rfl | ⟨b, o, rfl, -, -, -⟩
  · simp at hi
  · refine ⟨b, o, rfl, fun W' h => ?_⟩
    rcases h with rfl | ⟨b', o', e, -, h2, -⟩
    · simp at hi
    · injection e with e
      injection e with e1 e2
      subst e1 e2
      have h1 := (Rg.At.elem (E := strE) h2 hi) 0 _ rfl
      rw [show strE.m = 1 from rfl, Nat.mul_one, Nat.add_zero] at h1
      exact h1
theorem row_k {w : World} {a : Option Addr} {l : List ByteArray} (h : Row0 strE w a l) : SRowK w.heap.size w a l := by
  rcases h with h | h | ⟨b, o, h1, h2, h3⟩
  · exact .inl h
  · exact .inl h.2
  · exact .inr ⟨b, o, h1, h2, h3, .inl h2⟩
theorem tow_k {base : Nat} {w : World} {a : Option Addr} {l : List ByteArray} (h : Rg.Tow strE w a l) : SRowK base w a l := by
  rcases h.1 with h1 | ⟨b, o, h1, h2, h3⟩
  · exact .inl h1.2
  · obtain ⟨C, k⟩ := h.2 b o h1
    exact .inr ⟨b, o, h1, h2, h3, .inr ⟨_, k, fun C' e => by injection e with _ e _; exact absurd e (by decide)⟩⟩
namespace Ch
theorem putW_len (ws ns : List ByteArray) (i : Nat) (h1 : ∀ s ∈ ws, s.size ≤ 6000) (h2 : ∀ s ∈ ns, s.size ≤ 6000) : (putW ws ns i).length ≤ 25000 := by
  have a1 : ∀ (l : List ByteArray) (k : Nat), (∀ s ∈ l, s.size ≤ 6000) → (l.getD k ⟨#[]⟩).data.toList.length ≤ 6000 := fun l k h => by
    rw [List.getD_eq_getElem?_getD]
    cases hk : l[k]? with
    | none => exact Nat.zero_le _
    | some y => exact h y (List.mem_of_getElem? hk)
  have b1 := putT_len (ws.getD i ⟨#[]⟩).data.toList
  have b2 := a1 ws i h1
  have b3 := putN_len (ns.getD (i - 1) ⟨#[]⟩).data.toList
  have b4 := a1 ns (i - 1) h2
  unfold putW
  rw [List.length_append]
  split
  · rw [List.length_append, List.length_cons, List.length_singleton]; omega
  · rw [List.length_nil]; omega
theorem putWs_len (ws ns : List ByteArray) (h1 : ∀ s ∈ ws, s.size ≤ 6000) (h2 : ∀ s ∈ ns, s.size ≤ 6000) : ∀ i, (putWs ws ns i).length ≤ i * 25000
  | 0 => by simp [putWs]
  | i + 1 => by
    have := putWs_len ws ns h1 h2 i
    have := putW_len ws ns i h1 h2
    simp only [putWs, List.length_append]
    omega
theorem putSt_len (x : St) (h0 : x.wants.length ≤ 300) (h1 : ∀ s ∈ x.wants, s.size ≤ 6000) (h2 : ∀ s ∈ x.nudge, s.size ≤ 6000) (h3 : x.send.size ≤ 6000) : (putSt x).length ≤ 7520000 := by
  have a := putWs_len x.wants x.nudge h1 h2 x.wants.length
  have b := putN_len x.send.data.toList
  have c : x.send.data.toList.length = x.send.size := rfl
  unfold putSt
  simp only [List.length_append, List.length_cons, List.length_nil]
  omega
end Ch
/-- what putStep's round needs of one more byte -/
theorem add1 {base : Nat} {w W : World} {v : Value} {l : List UInt8} (h : BOwn base W v l) (hB : base ≤ W.heap.size) (c : UInt8) (cn : Int) (hc : cn = (c.toNat : Int)) (hl : l.length ≤ 900000000) (hbw : Below base w W) :
    ∃ v' W', (Builtin.append_ #[45, 45] 45 #[v, .slice (some ⟨W.heap.size, 0, none⟩) 1 1]).run Tryd.prog (W.alloc (.cells #[.int .u8 cn] 5)) = .ok v' W' ∧ BOwn base W' v' (l ++ [c]) ∧ Below base w W' ∧ Keep W W' := by
  subst hc
  have bA := Rg.al1 W (.cells #[.int .u8 (c.toNat : Int)] 5)
  obtain ⟨v2, w3, hap, hO3, hb3, hk3⟩ := (h.below bA).put [c] 1 rfl W.heap.size (Rg.Bk.new rfl) (Nat.le_trans hB bA.size) (by rw [List.length_singleton]; omega)
  exact ⟨v2, w3, hap, hO3, (hbw.trans (bA.mono hB)).trans hb3, (Keep.below bA).trans hk3⟩

set_option maxHeartbeats 4000000 in
set_option maxRecDepth 100000 in
theorem pstep_any (base : Nat) (v : Value) (l : List UInt8) (wa : Option Addr) (wn wc0 : Nat) (na : Option Addr) (nn nc : Nat) (ss : ByteArray) (ws ns : List ByteArray) (w : World) (h : BOwn base w v l) (hB : base ≤ w.heap.size) (hl : l.length ≤ 500000000)
    (hwn : wn = ws.length) (hnn : nn = ns.length) (hW : SRowK base w wa ws) (hN : SRowK base w na ns) (h300 : ws.length ≤ 300) (hone : ns.length + 1 = ws.length) (h1 : ∀ s ∈ ws, s.size ≤ 6000) (h2 : ∀ s ∈ ns, s.size ≤ 6000) (h3 : ss.size ≤ 6000) :
    Calls Tryd.prog 21 #[v, .agg #[.slice wa wn wc0, .slice na nn nc, .string ss]] w fun e w' => BPost base w (l ++ Ch.putSt ⟨ws, ns, ss⟩) e w' := by
  have bA := Rg.al1 w (.cells #[.slice wa wn wc0, .slice na nn nc, .string ss] 43)
  have kD1 : Hid (Rg.Bk w.heap.size [.slice wa wn wc0, .slice na nn nc, .string ss] 43 (w.alloc (.cells #[.slice wa wn wc0, .slice na nn nc, .string ss] 43))) := Rg.Bk.new rfl
  have hO1 : BOwn base (w.alloc (.cells #[.slice wa wn wc0, .slice na nn nc, .string ss] 43)) v (l ++ Ch.putWs ws ns 0) := by simpa [Ch.putWs] using h.below bA
  replace hO1 := Rg.hid hO1
  have hW1 := Rg.hid (hW.keep (bA.mono hB) (Keep.below bA))
  have hN1 := Rg.hid (hN.keep (bA.mono hB) (Keep.below bA))
  have hb1 := Rg.hid (bA.mono hB)
  have hk1 := Rg.hid (Keep.below bA)
  have hB1 : base ≤ (w.alloc (.cells #[.slice wa wn wc0, .slice na nn nc, .string ss] 43)).heap.size := Nat.le_trans hB bA.size
  have hWl : Hid (∀ i, (l ++ Ch.putWs ws ns i).length ≤ 500000000 + i * 25000) := fun i => by
    have := Ch.putWs_len ws ns h1 h2 i
    rw [List.length_append]; omega
  replace hwn := Rg.hid hwn
  replace hnn := Rg.hid hnn
  replace hone := Rg.hid hone
  have hwn3 : wn ≤ 300 := by rw [hwn.out]; exact h300
  replace h1 := Rg.hid h1
  replace h2 := Rg.hid h2
  clear h bA hW hN h300 hl
  go_enter Tryd.func21, Tryd.ntmps21
  go_upto_region 1 with fail
  generalize (w.alloc (.cells #[.slice wa wn wc0, .slice na nn nc, .string ss] 43)) = w1 at *
  obtain ⟨D, hD⟩ : ∃ D, D = w.heap.size := ⟨_, rfl⟩
  rw [← hD] at kD1 ⊢
  clear hD
  have a0 : w1.cell? ⟨D, 0, none⟩ = some (.slice wa wn wc0) := kD1.out.cell 0
  go_wp2
  clear a0
  go_loopw [0, 10] (fun va vi wr => ∃ (i : Nat) (v : Value), i ≤ wn ∧ vi = .int .i64 i ∧ v = va ∧ Hid (BOwn base wr v (l ++ Ch.putWs ws ns i)) ∧ Hid (Below base w1 wr) ∧ Hid (Keep w1 wr)) (fun _ vi _ => wn - (intOf vi).toNat)
  case atStart => exact ⟨0, v, Nat.zero_le _, rfl, rfl, hO1, Below.refl _ _, Keep.refl _⟩
  case round =>
    clear hO1
    obtain ⟨i, v, hin, rfl, rfl, hO, hbw, hkw⟩ := hrel
    have hBw := Nat.le_trans hB1 hbw.out.size
    by_cases hlt : i < wn
    · have hil : i < ws.length := by rw [← hwn.out]; exact hlt
      obtain ⟨gw, ow, rfl, hcw⟩ := hW1.out.cell hil
      have c1 := hcw wr (hW1.out.keep hbw.out hkw.out)
      have hws := h1.out ws[i] (List.getElem_mem hil)
      have hgd : ws.getD i ⟨#[]⟩ = ws[i] := by rw [List.getD_eq_getElem?_getD, List.getElem?_eq_getElem hil]; rfl
      have hz0 : (0 : Int) ≤ (i : Int) := by omega
      have hz1 : (i : Int) < (wn : Int) := by omega
      have hWi := hWl.out i
      have hWi1 := hWl.out (i + 1)
      by_cases hi0 : i = 0
      · have hpw : Hid (l ++ Ch.putWs ws ns (i + 1) = (l ++ Ch.putWs ws ns i) ++ Ch.putT ws[i].data.toList) := by
          show _ = _
          simp only [Ch.putWs, Ch.putW, hgd]
          rw [if_neg (by omega)]
          simp
        have d0 : decide ((0 : Int) < (i : Int)) = false := by simp only [decide_eq_false_iff_not]; omega
        have d0' : decide (0 < i) = false := by simp only [decide_eq_false_iff_not]; omega
        have HT : Hid (Calls Tryd.prog 38 #[v, .string ws[i]] wr fun e w' => ∃ v2, e = .returned v2 ∧ Hid (BOwn base w' v2 ((l ++ Ch.putWs ws ns i) ++ Ch.putT ws[i].data.toList) ∧ Below base wr w' ∧ Keep wr w')) := ptext_any base v _ ws[i] wr hO.out hBw (by omega)
        rw [← hpw.out] at HT
        generalize ws[i] = x at *
        clear hpw hgd hcw hO hi0 hil
        go_upto_region 9 with (go_at_call 38; refine HT.out.mono ?_; rintro e w2 ⟨v2, rfl, h9⟩)
        have hO9 := Rg.hid h9.out.1
        have hb9 := Rg.hid (hbw.out.trans h9.out.2.1)
        have hk9 := Rg.hid (hkw.out.trans h9.out.2.2)
        clear h9 HT c1 hbw hkw d0 d0'
        go_wp2
        go_roundw
        case rel => exact ⟨i + 1, v2, by omega, by go_num, rfl, hO9, hb9, hk9⟩
        case measure => simp [intOf]; omega
      · obtain ⟨j, hj⟩ : ∃ j, i = j + 1 := ⟨i - 1, by omega⟩
        have hjn : j < ns.length := by have := hone.out; omega
        obtain ⟨gn, on, rfl, hcn⟩ := hN1.out.cell hjn
        have hns := h2.out ns[j] (List.getElem_mem hjn)
        have hgn : ns.getD (i - 1) ⟨#[]⟩ = ns[j] := by rw [show i - 1 = j by omega, List.getD_eq_getElem?_getD, List.getElem?_eq_getElem hjn]; rfl
        have hpw : Hid (l ++ Ch.putWs ws ns (i + 1) = ((((l ++ Ch.putWs ws ns i) ++ [45]) ++ Ch.putN ns[j].data.toList) ++ [45]) ++ Ch.putT ws[i].data.toList) := by
          show _ = _
          simp only [Ch.putWs, Ch.putW, hgd, hgn]
          rw [if_pos (by omega)]
          simp
        have d0 : decide ((0 : Int) < (i : Int)) = true := by simp only [decide_eq_true_eq]; omega
        have d0' : decide (0 < i) = true := by simp only [decide_eq_true_eq]; omega
        have y0 : IntKind.i64.wrap ((i : Int) - 1) = (j : Int) := by rw [IntKind.wrap_i64]; omega
        have y1 : wrap64 ((i : Int) - 1) = (j : Int) := by unfold wrap64; omega
        have y2 : (0 : Int) ≤ (j : Int) := by omega
        have y3 : (j : Int) < (nn : Int) := by rw [hnn.out]; omega
        have hNl := Ch.putN_len ns[j].data.toList
        have hNl2 : ns[j].data.toList.length = ns[j].size := rfl
        -- the stroke
        obtain ⟨v2, w2, hap, hO2, hb2, hk2⟩ := add1 (w := w1) hO.out hBw 45 45 rfl (by omega) hbw.out
        have hk2' := hkw.out.trans hk2
        have kD2 := hk2'.bk kD1.out (by decide)
        have e1 : w2.cell? ⟨D, 1, none⟩ = some (.slice (some ⟨gn, on, none⟩) nn nc) := kD2.cell 1
        have e2 := hcn w2 (hN1.out.keep hb2 hk2')
        have hl2 : ((l ++ Ch.putWs ws ns i) ++ [45]).length + 2 * ns[j].size ≤ 600000000 := by rw [List.length_append, List.length_singleton]; omega
        have HN : Hid (Calls Tryd.prog 37 #[v2, .string ns[j]] w2 fun e w' => ∃ v3 v4 w4, e = .returned v3 ∧ Hid ((Builtin.append_ #[45, 45] 45 #[v3, .slice (some ⟨w'.heap.size, 0, none⟩) 1 1]).run Tryd.prog (w'.alloc (.cells #[.int .u8 45] 5)) = .ok v4 w4) ∧ Hid (Calls Tryd.prog 38 #[v4, .string ws[i]] w4 fun e w' => ∃ v5, e = .returned v5 ∧ Hid (BOwn base w' v5 (l ++ Ch.putWs ws ns (i + 1)) ∧ Below base w1 w' ∧ Keep w1 w'))) := (psent_any base v2 _ ns[j] w2 hO2 (Nat.le_trans hB1 hb2.size) (by omega)).mono fun e w' ⟨v3, q1, q2, q3, q4⟩ => by
          have q5 := hb2.trans q3
          have hl3 : (((l ++ Ch.putWs ws ns i) ++ [45]) ++ Ch.putN ns[j].data.toList).length ≤ 650000000 := by rw [List.length_append]; omega
          obtain ⟨v4, w4, hap4, hO4, hb4, hk4⟩ := add1 (w := w1) q2 (Nat.le_trans hB1 q5.size) 45 45 rfl (by omega) q5
          have hk4' := (hk2'.trans q4).trans hk4
          refine ⟨v3, v4, w4, q1, hap4, ?_⟩
          exact (ptext_any base v4 _ ws[i] w4 hO4 (Nat.le_trans hB1 hb4.size) (by rw [List.length_append, List.length_singleton]; omega)).mono fun e w' ⟨v5, r1, r2, r3, r4⟩ => ⟨v5, r1, by rw [hpw.out]; exact r2, hb4.trans r3, hk4'.trans r4⟩
        replace hap := Rg.hid hap
        generalize ws[i] = x at *
        generalize ns[j] = y at *
        clear hpw hgd hgn hcw hcn hO hi0 hil hO2 hb2 hk2 hk2' kD2 hl2 hNl hNl2 hj hjn
        go_upto_region 9 with (first
          | (go_at_call 37; refine HN.out.mono ?_; rintro e w3 ⟨v3, v4, w4, rfl, hap4, HT⟩)
          | (go_at_call 38; refine HT.out.mono ?_; rintro e w5 ⟨v5, rfl, h9⟩)
          | (at_builtin; refine Rg.wpList_append_run rfl (.tmp 17) (.tmp 18) 45 rfl _ _ rfl rfl _ _ hap.out ?_)
          | (at_builtin; refine Rg.wpList_append_run rfl (.tmp 28) (.tmp 29) 45 rfl _ _ rfl rfl _ _ hap4.out ?_))
        have hO9 := Rg.hid h9.out.1
        have hb9 := Rg.hid h9.out.2.1
        have hk9 := Rg.hid h9.out.2.2
        clear h9 HT HN c1 hbw hkw d0 d0' e1 e2 hap hap4
        go_wp2
        go_roundw
        case rel => exact ⟨i + 1, v5, by omega, by go_num, rfl, hO9, hb9, hk9⟩
        case measure => simp [intOf]; omega
    · obtain rfl : i = wn := by omega
      have hWi := hWl.out i
      have hi300 : i ≤ 300 := hwn3
      obtain ⟨v2, w2, hap, hO2, hb2, hk2⟩ := add1 (w := w1) hO.out hBw 32 32 rfl (by omega) hbw.out
      have hk2' := hkw.out.trans hk2
      have kD2 := hk2'.bk kD1.out (by decide)
      have e2 : w2.cell? ⟨D, 2, none⟩ = some (.string ss) := kD2.cell 2
      have hNl := Ch.putN_len ss.data.toList
      have hNl2 : ss.data.toList.length = ss.size := rfl
      have hpw : Hid (l ++ Ch.putSt ⟨ws, ns, ss⟩ = (((l ++ Ch.putWs ws ns i) ++ [32]) ++ Ch.putN ss.data.toList) ++ [32]) := by
        show _ = _
        unfold Ch.putSt
        rw [hwn.out]
        simp
      have HN : Hid (Calls Tryd.prog 37 #[v2, .string ss] w2 fun e w' => ∃ v3 v4 w4, e = .returned v3 ∧ Hid ((Builtin.append_ #[45, 45] 45 #[v3, .slice (some ⟨w'.heap.size, 0, none⟩) 1 1]).run Tryd.prog (w'.alloc (.cells #[.int .u8 32] 5)) = .ok v4 w4) ∧ Hid (BPost base w (l ++ Ch.putSt ⟨ws, ns, ss⟩) (.returned v4) w4)) := (psent_any base v2 _ ss w2 hO2 (Nat.le_trans hB1 hb2.size) (by rw [List.length_append, List.length_singleton]; omega)).mono fun e w' ⟨v3, q1, q2, q3, q4⟩ => by
        have q5 := hb2.trans q3
        obtain ⟨v4, w4, hap4, hO4, hb4, hk4⟩ := add1 (w := w1) q2 (Nat.le_trans hB1 q5.size) 32 32 rfl (by rw [List.length_append, List.length_append, List.length_singleton]; omega) q5
        exact ⟨v3, v4, w4, q1, hap4, v4, rfl, by rw [hpw.out]; exact hO4, hb1.out.trans hb4, hk1.out.trans ((hk2'.trans q4).trans hk4)⟩
      replace hap := Rg.hid hap
      clear hO hO2 hb2 hk2 hk2' kD2 hNl hNl2 hpw
      go_wp2_with (first
        | (go_at_call 37; refine HN.out.mono ?_; rintro e w3 ⟨v3, v4, w4, rfl, hap4, hpost⟩)
        | (at_builtin; refine Rg.wpList_append_run rfl (.tmp 35) (.tmp 36) 45 rfl _ _ rfl rfl _ _ hap.out ?_)
        | (at_builtin; refine Rg.wpList_append_run rfl (.tmp 42) (.tmp 43) 45 rfl _ _ rfl rfl _ _ hap4.out ?_))
      exact bodyPost_ret (v := v4) (by simp [results, Tryd.results21, go_sem]) rfl hpost.out
end Go.Proofs.YteepfifglafjmaaDoor
