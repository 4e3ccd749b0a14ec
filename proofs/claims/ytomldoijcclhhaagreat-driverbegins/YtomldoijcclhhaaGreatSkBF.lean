/-
  Walks of layer 15's statements: pieces, same. Layer 17: Quiet, Channels; what driver asks of a drive of e.
-/
import Derived.Test.YtomldoijcclhhaaGreatSkAC
import Derived.Deep.RegionHeld3
import Derived.Deep.DeepCutAuto
import Derived.Deep.QuietTactic
import Derived.BigQuiet
import Derived.Test.YtomldoijcclhhaaGreatSkAD
namespace Go.Proofs.YtomldoijcclhhaaGreat
open Go.RowKit
set_option maxHeartbeats 2000000 in
set_option maxRecDepth 100000 in
theorem xpieces_go (l : List Gp.Pc) (n : Nat) (hnl : Hid (n = l.length)) (hn1 : n ≤ 1000000) (a b : Option Addr) (ca cb : Nat) (w : World) (h1 : Hid (ERow pcE w a l)) (h2 : Hid (ERow pcE w b l)) :
    Calls Tryz.prog 18 #[.slice a n ca, .slice b n cb] w fun e w' => e = .returned (.bool true) ∧ Below w.heap.size w w' := by
  go_enter Tryz.func18, Tryz.ntmps18
  go_wp2
  go_loopw [13] (fun vi wr => ∃ i : Nat, i ≤ n ∧ vi = .int .i64 i ∧ Below w.heap.size w wr) (fun vi _ => n - (intOf vi).toNat)
  case atStart => exact ⟨0, Nat.zero_le _, rfl, Below.refl _ _⟩
  case round =>
    obtain ⟨i, hin, rfl, hbw⟩ := hrel
    by_cases hlt : i < n
    · have hil : i < l.length := by rw [← hnl.out]; exact hlt
      obtain ⟨b1, o1, rfl, _, _, y1⟩ := (h1.out.below hbw).cell hil
      obtain ⟨b2, o2, rfl, _, _, y2⟩ := (h2.out.below hbw).cell hil
      replace y1 := pc_at y1
      replace y2 := pc_at y2
      generalize l[i] = x at y1 y2
      obtain ⟨xt, D⟩ := x
      obtain ⟨c0, c1⟩ := y1
      obtain ⟨c2, c3⟩ := y2
      have em : pcE.m = 2 := rfl
      rw [em] at c0 c1 c2 c3
      dsimp only at c0 c1 c2 c3
      have iz0 : (0 : Int) ≤ (i : Int) := by omega
      have iz1 : (i : Int) < (n : Int) := by omega
      clear h1 h2 hil em
      go_upto_region 6 with fail
      go_quiet (fail)
      go_wp2
      go_roundw
      case rel => exact ⟨i + 1, by omega, by go_num, Rg.drewN hbw _⟩
      case measure => simp [intOf]; omega
    · have hie : i = n := by omega
      subst hie
      go_wp2
      go_ret
      exact ⟨rfl, hbw⟩
set_option maxHeartbeats 8000000 in
set_option maxRecDepth 100000 in
/-- the drives' same -/
theorem xsame_go (lt ph : Int) (cl : Bool) (st sz rm wm ws wb : Int) (wn : Nat) (wl : List ByteArray) (wa : Int) (an : Nat) (al : List Gp.Fi) (bf : ByteArray) (at0 : Int) (qn : Nat) (ql : List Gp.Pc) (wt tr : Int) (tn : Nat) (tl : List (Int × Int)) (wA aA qA tA wB aB qB tB : Option Addr) (wcA acA qcA tcA wcB acB qcB tcB : Nat)
    (hwn : Hid (wn = wl.length)) (han : Hid (an = al.length)) (hqn : Hid (qn = ql.length)) (htn : Hid (tn = tl.length)) (hn1 : wn ≤ 1000000) (hn2 : an ≤ 1000000) (hn3 : qn ≤ 1000000) (hn4 : tn ≤ 1000000) (w : World)
    (hwA : Hid (SRow w wA wl)) (haA : Hid (ERow fiE w aA al)) (hqA : Hid (ERow pcE w qA ql)) (htA : Hid (ERow spE w tA tl)) (hwB : Hid (SRow w wB wl)) (haB : Hid (ERow fiE w aB al)) (hqB : Hid (ERow pcE w qB ql)) (htB : Hid (ERow spE w tB tl)) :
    Calls Tryz.prog 7 #[.agg #[.int .i64 lt, .int .i64 ph, .bool cl, .int .i64 st, .int .i64 sz, .int .i64 rm, .int .i64 wm, .int .i64 ws, .int .i64 wb, .slice wA wn wcA, .int .i64 wa, .slice aA an acA, .string bf, .int .i64 at0, .slice qA qn qcA, .int .i64 wt, .int .i64 tr, .slice tA tn tcA], .agg #[.int .i64 lt, .int .i64 ph, .bool cl, .int .i64 st, .int .i64 sz, .int .i64 rm, .int .i64 wm, .int .i64 ws, .int .i64 wb, .slice wB wn wcB, .int .i64 wa, .slice aB an acB, .string bf, .int .i64 at0, .slice qB qn qcB, .int .i64 wt, .int .i64 tr, .slice tB tn tcB]] w fun e w' => e = .returned (.bool true) ∧ Below w.heap.size w w' := by
  have kA1 : Hid (Rg.Bk w.heap.size [.int .i64 lt, .int .i64 ph, .bool cl, .int .i64 st, .int .i64 sz, .int .i64 rm, .int .i64 wm, .int .i64 ws, .int .i64 wb, .slice wA wn wcA, .int .i64 wa, .slice aA an acA, .string bf, .int .i64 at0, .slice qA qn qcA, .int .i64 wt, .int .i64 tr, .slice tA tn tcA] 29 ((w.alloc (.cells #[.int .i64 lt, .int .i64 ph, .bool cl, .int .i64 st, .int .i64 sz, .int .i64 rm, .int .i64 wm, .int .i64 ws, .int .i64 wb, .slice wA wn wcA, .int .i64 wa, .slice aA an acA, .string bf, .int .i64 at0, .slice qA qn qcA, .int .i64 wt, .int .i64 tr, .slice tA tn tcA] 29)).alloc (.cells #[.int .i64 lt, .int .i64 ph, .bool cl, .int .i64 st, .int .i64 sz, .int .i64 rm, .int .i64 wm, .int .i64 ws, .int .i64 wb, .slice wB wn wcB, .int .i64 wa, .slice aB an acB, .string bf, .int .i64 at0, .slice qB qn qcB, .int .i64 wt, .int .i64 tr, .slice tB tn tcB] 29))) := (Rg.Bk.new rfl).old _
  have kB1 : Hid (Rg.Bk (w.heap.size + 1) [.int .i64 lt, .int .i64 ph, .bool cl, .int .i64 st, .int .i64 sz, .int .i64 rm, .int .i64 wm, .int .i64 ws, .int .i64 wb, .slice wB wn wcB, .int .i64 wa, .slice aB an acB, .string bf, .int .i64 at0, .slice qB qn qcB, .int .i64 wt, .int .i64 tr, .slice tB tn tcB] 29 ((w.alloc (.cells #[.int .i64 lt, .int .i64 ph, .bool cl, .int .i64 st, .int .i64 sz, .int .i64 rm, .int .i64 wm, .int .i64 ws, .int .i64 wb, .slice wA wn wcA, .int .i64 wa, .slice aA an acA, .string bf, .int .i64 at0, .slice qA qn qcA, .int .i64 wt, .int .i64 tr, .slice tA tn tcA] 29)).alloc (.cells #[.int .i64 lt, .int .i64 ph, .bool cl, .int .i64 st, .int .i64 sz, .int .i64 rm, .int .i64 wm, .int .i64 ws, .int .i64 wb, .slice wB wn wcB, .int .i64 wa, .slice aB an acB, .string bf, .int .i64 at0, .slice qB qn qcB, .int .i64 wt, .int .i64 tr, .slice tB tn tcB] 29))) := Rg.Bk.new (by simp)
  have hb1 := Rg.hid (Rg.al2 w (.cells #[.int .i64 lt, .int .i64 ph, .bool cl, .int .i64 st, .int .i64 sz, .int .i64 rm, .int .i64 wm, .int .i64 ws, .int .i64 wb, .slice wA wn wcA, .int .i64 wa, .slice aA an acA, .string bf, .int .i64 at0, .slice qA qn qcA, .int .i64 wt, .int .i64 tr, .slice tA tn tcA] 29) (.cells #[.int .i64 lt, .int .i64 ph, .bool cl, .int .i64 st, .int .i64 sz, .int .i64 rm, .int .i64 wm, .int .i64 ws, .int .i64 wb, .slice wB wn wcB, .int .i64 wa, .slice aB an acB, .string bf, .int .i64 at0, .slice qB qn qcB, .int .i64 wt, .int .i64 tr, .slice tB tn tcB] 29))
  have HP : Hid (∀ W, Below w.heap.size w W → Calls Tryz.prog 18 #[.slice qA qn qcA, .slice qB qn qcB] W fun e w' => e = .returned (.bool true) ∧ Below W.heap.size W w') := fun W hW => xpieces_go ql qn hqn hn3 qA qB qcA qcB W (hqA.out.below hW) (hqB.out.below hW)
  clear hqA hqB hqn
  go_enter Tryz.func7, Tryz.ntmps7
  go_upto_region 1 with fail
  generalize World.alloc _ _ = w1 at *
  obtain ⟨B, hB⟩ : ∃ B, B = w.heap.size := ⟨_, rfl⟩
  obtain ⟨R, hR⟩ : ∃ R, R = w.heap.size + 1 := ⟨_, rfl⟩
  rw [← hR] at kB1 ⊢
  rw [← hB] at kA1 ⊢
  clear hB hR
  have z0 : w1.cell? ⟨B, 0, none⟩ = some (.int .i64 lt) := (kA1.out).cell 0
  have r0 : w1.cell? ⟨R, 0, none⟩ = some (.int .i64 lt) := (kB1.out).cell 0
  have z1 : w1.cell? ⟨B, 1, none⟩ = some (.int .i64 ph) := (kA1.out).cell 1
  have r1 : w1.cell? ⟨R, 1, none⟩ = some (.int .i64 ph) := (kB1.out).cell 1
  have z2 : w1.cell? ⟨B, 2, none⟩ = some (.bool cl) := (kA1.out).cell 2
  have r2 : w1.cell? ⟨R, 2, none⟩ = some (.bool cl) := (kB1.out).cell 2
  have z3 : w1.cell? ⟨B, 3, none⟩ = some (.int .i64 st) := (kA1.out).cell 3
  have r3 : w1.cell? ⟨R, 3, none⟩ = some (.int .i64 st) := (kB1.out).cell 3
  have z4 : w1.cell? ⟨B, 4, none⟩ = some (.int .i64 sz) := (kA1.out).cell 4
  have r4 : w1.cell? ⟨R, 4, none⟩ = some (.int .i64 sz) := (kB1.out).cell 4
  have z5 : w1.cell? ⟨B, 5, none⟩ = some (.int .i64 rm) := (kA1.out).cell 5
  have r5 : w1.cell? ⟨R, 5, none⟩ = some (.int .i64 rm) := (kB1.out).cell 5
  have z6 : w1.cell? ⟨B, 6, none⟩ = some (.int .i64 wm) := (kA1.out).cell 6
  have r6 : w1.cell? ⟨R, 6, none⟩ = some (.int .i64 wm) := (kB1.out).cell 6
  have z7 : w1.cell? ⟨B, 7, none⟩ = some (.int .i64 ws) := (kA1.out).cell 7
  have r7 : w1.cell? ⟨R, 7, none⟩ = some (.int .i64 ws) := (kB1.out).cell 7
  have z8 : w1.cell? ⟨B, 8, none⟩ = some (.int .i64 wb) := (kA1.out).cell 8
  have r8 : w1.cell? ⟨R, 8, none⟩ = some (.int .i64 wb) := (kB1.out).cell 8
  have z9 : w1.cell? ⟨B, 9, none⟩ = some (.slice wA wn wcA) := (kA1.out).cell 9
  have r9 : w1.cell? ⟨R, 9, none⟩ = some (.slice wB wn wcB) := (kB1.out).cell 9
  have z10 : w1.cell? ⟨B, 10, none⟩ = some (.int .i64 wa) := (kA1.out).cell 10
  have r10 : w1.cell? ⟨R, 10, none⟩ = some (.int .i64 wa) := (kB1.out).cell 10
  have z11 : w1.cell? ⟨B, 11, none⟩ = some (.slice aA an acA) := (kA1.out).cell 11
  have r11 : w1.cell? ⟨R, 11, none⟩ = some (.slice aB an acB) := (kB1.out).cell 11
  have z12 : w1.cell? ⟨B, 12, none⟩ = some (.string bf) := (kA1.out).cell 12
  have r12 : w1.cell? ⟨R, 12, none⟩ = some (.string bf) := (kB1.out).cell 12
  have z13 : w1.cell? ⟨B, 13, none⟩ = some (.int .i64 at0) := (kA1.out).cell 13
  have r13 : w1.cell? ⟨R, 13, none⟩ = some (.int .i64 at0) := (kB1.out).cell 13
  have z14 : w1.cell? ⟨B, 14, none⟩ = some (.slice qA qn qcA) := (kA1.out).cell 14
  have r14 : w1.cell? ⟨R, 14, none⟩ = some (.slice qB qn qcB) := (kB1.out).cell 14
  have z15 : w1.cell? ⟨B, 15, none⟩ = some (.int .i64 wt) := (kA1.out).cell 15
  have r15 : w1.cell? ⟨R, 15, none⟩ = some (.int .i64 wt) := (kB1.out).cell 15
  have z16 : w1.cell? ⟨B, 16, none⟩ = some (.int .i64 tr) := (kA1.out).cell 16
  have r16 : w1.cell? ⟨R, 16, none⟩ = some (.int .i64 tr) := (kB1.out).cell 16
  have z17 : w1.cell? ⟨B, 17, none⟩ = some (.slice tA tn tcA) := (kA1.out).cell 17
  have r17 : w1.cell? ⟨R, 17, none⟩ = some (.slice tB tn tcB) := (kB1.out).cell 17
  go_upto_region 3 with fail
  go_upto_region 5 with (go_at_call 18; refine (HP.out _ hb1.out).mono ?_; rintro e w2 ⟨rfl, b2⟩; have hb2 := Rg.hid (Rg.chain hb1.out b2); have kA2 := Rg.hid (kA1.out.below b2 kA1.out.lt); have kB2 := Rg.hid (kB1.out.below b2 kB1.out.lt); clear z0 r0 z1 r1 z2 r2 z3 r3 z4 r4 z5 r5 z6 r6 z7 r7 z8 r8 z9 r9 z10 r10 z11 r11 z12 r12 z13 r13 z14 r14 z15 r15 z16 r16 z17 r17 b2 hb1 kA1 kB1; have z17 : w2.cell? ⟨B, 17, none⟩ = some (.slice tA tn tcA) := kA2.out.cell 17; have r17 : w2.cell? ⟨R, 17, none⟩ = some (.slice tB tn tcB) := kB2.out.cell 17)
  clear z17 r17 HP
  have z9 : w2.cell? ⟨B, 9, none⟩ = some (.slice wA wn wcA) := kA2.out.cell 9
  go_wp2
  clear z9
  go_loopw [149] (fun vi wr => ∃ i : Nat, i ≤ wn ∧ vi = .int .i64 i ∧ Below w2.heap.size w2 wr) (fun vi _ => wn - (intOf vi).toNat)
  case atStart => exact ⟨0, Nat.zero_le _, rfl, Below.refl _ _⟩
  case round =>
    obtain ⟨i, hin, rfl, hbw⟩ := hrel
    by_cases hlt : i < wn
    · have hil : i < wl.length := by rw [← hwn.out]; exact hlt
      have hbx := Rg.chain hb2.out hbw
      obtain ⟨b1, o1, rfl, _, _, y1⟩ := (hwA.out.below hbx).cell hil
      obtain ⟨b2, o2, rfl, _, _, y2⟩ := (hwB.out.below hbx).cell hil
      generalize wl[i] = x at y1 y2
      have z9 : wr.cell? ⟨B, 9, none⟩ = some (.slice (some ⟨b1, o1, none⟩) wn wcA) := (kA2.out.below hbw kA2.out.lt).cell 9
      have r9 : wr.cell? ⟨R, 9, none⟩ = some (.slice (some ⟨b2, o2, none⟩) wn wcB) := (kB2.out.below hbw kB2.out.lt).cell 9
      have iz0 : (0 : Int) ≤ (i : Int) := by omega
      have iz1 : (i : Int) < (wn : Int) := by omega
      clear hwA hwB haA haB htA htB hil hbx kA2 kB2 hb2
      go_upto_region 8 with fail
      go_quiet (fail)
      go_wp2
      go_roundw
      case rel => exact ⟨i + 1, by omega, by go_num, Rg.drewN hbw _⟩
      case measure => simp [intOf]; omega
    · have hie : i = wn := by omega
      subst hie
      have kA3 := Rg.hid (kA2.out.below hbw kA2.out.lt)
      have kB3 := Rg.hid (kB2.out.below hbw kB2.out.lt)
      have hb3 := Rg.hid (Rg.chain hb2.out hbw)
      clear kA2 kB2 hb2 hbw hlt hin
      have z11 : wr.cell? ⟨B, 11, none⟩ = some (.slice aA an acA) := kA3.out.cell 11
      go_wp2
      clear z11
      obtain ⟨w3, hwk⟩ : ∃ W, W = wr := ⟨_, rfl⟩
      subst hwk
      go_loopw [169] (fun vi wr => ∃ i : Nat, i ≤ an ∧ vi = .int .i64 i ∧ Below w3.heap.size w3 wr) (fun vi _ => an - (intOf vi).toNat)
      case atStart => exact ⟨0, Nat.zero_le _, rfl, Below.refl _ _⟩
      case round =>
        obtain ⟨i, hin, rfl, hbw⟩ := hrel
        by_cases hlt : i < an
        · have hil : i < al.length := by rw [← han.out]; exact hlt
          have hbx := Rg.chain hb3.out hbw
          obtain ⟨b1, o1, rfl, _, _, y1⟩ := (haA.out.below hbx).cell hil
          obtain ⟨b2, o2, rfl, _, _, y2⟩ := (haB.out.below hbx).cell hil
          replace y1 := fi_at y1
          replace y2 := fi_at y2
          generalize al[i] = x at y1 y2
          obtain ⟨f1, f2, f3, f4, f5, f6⟩ := x
          obtain ⟨c0, c1, c2, c3, c4, c5⟩ := y1
          obtain ⟨e0, e1, e2, e3, e4, e5⟩ := y2
          have em : fiE.m = 6 := rfl
          rw [em] at c0 e0 c1 e1 c2 e2 c3 e3 c4 e4 c5 e5
          dsimp only at c0 e0 c1 e1 c2 e2 c3 e3 c4 e4 c5 e5
          clear em
          have z11 : wr.cell? ⟨B, 11, none⟩ = some (.slice (some ⟨b1, o1, none⟩) an acA) := (kA3.out.below hbw kA3.out.lt).cell 11
          have r11 : wr.cell? ⟨R, 11, none⟩ = some (.slice (some ⟨b2, o2, none⟩) an acB) := (kB3.out.below hbw kB3.out.lt).cell 11
          have iz0 : (0 : Int) ≤ (i : Int) := by omega
          have iz1 : (i : Int) < (an : Int) := by omega
          clear hwA hwB haA haB htA htB hil hbx kA3 kB3 hb3
          go_upto_region 14 with fail
          go_quiet (fail)
          go_wp2
          go_roundw
          case rel => exact ⟨i + 1, by omega, by go_num, Rg.drewN hbw _⟩
          case measure => simp [intOf]; omega
        · have hie : i = an := by omega
          subst hie
          have kA4 := Rg.hid (kA3.out.below hbw kA3.out.lt)
          have kB4 := Rg.hid (kB3.out.below hbw kB3.out.lt)
          have hb4 := Rg.hid (Rg.chain hb3.out hbw)
          clear kA3 kB3 hb3 hbw hlt hin
          have z17 : wr.cell? ⟨B, 17, none⟩ = some (.slice tA tn tcA) := kA4.out.cell 17
          go_wp2
          clear z17
          obtain ⟨w4, hwk⟩ : ∃ W, W = wr := ⟨_, rfl⟩
          subst hwk
          go_loopw [187] (fun vi wr => ∃ i : Nat, i ≤ tn ∧ vi = .int .i64 i ∧ Below w4.heap.size w4 wr) (fun vi _ => tn - (intOf vi).toNat)
          case atStart => exact ⟨0, Nat.zero_le _, rfl, Below.refl _ _⟩
          case round =>
            obtain ⟨i, hin, rfl, hbw⟩ := hrel
            by_cases hlt : i < tn
            · have hil : i < tl.length := by rw [← htn.out]; exact hlt
              have hbx := Rg.chain hb4.out hbw
              obtain ⟨b1, o1, rfl, _, _, y1⟩ := (htA.out.below hbx).cell hil
              obtain ⟨b2, o2, rfl, _, _, y2⟩ := (htB.out.below hbx).cell hil
              replace y1 := sp_at y1
              replace y2 := sp_at y2
              generalize tl[i] = x at y1 y2
              obtain ⟨x1, x2⟩ := x
              obtain ⟨c0, c1⟩ := y1
              obtain ⟨e0, e1⟩ := y2
              have em : spE.m = 2 := rfl
              rw [em] at c0 e0 c1 e1
              dsimp only at c0 e0 c1 e1
              clear em
              have z17 : wr.cell? ⟨B, 17, none⟩ = some (.slice (some ⟨b1, o1, none⟩) tn tcA) := (kA4.out.below hbw kA4.out.lt).cell 17
              have r17 : wr.cell? ⟨R, 17, none⟩ = some (.slice (some ⟨b2, o2, none⟩) tn tcB) := (kB4.out.below hbw kB4.out.lt).cell 17
              have iz0 : (0 : Int) ≤ (i : Int) := by omega
              have iz1 : (i : Int) < (tn : Int) := by omega
              clear hwA hwB haA haB htA htB hil hbx kA4 kB4 hb4
              go_upto_region 20 with fail
              go_quiet (fail)
              go_wp2
              go_roundw
              case rel => exact ⟨i + 1, by omega, by go_num, Rg.drewN hbw _⟩
              case measure => simp [intOf]; omega
            · have hie : i = tn := by omega
              subst hie
              go_wp2
              go_ret
              exact ⟨rfl, Rg.chain hb4.out hbw⟩
theorem xsame_any (d : Gp.Dr) (p q : Pl) (h1 : d.win.l.length ≤ 1000000) (h2 : d.ahead.length ≤ 1000000) (h3 : d.queue.length ≤ 1000000) (h4 : d.took.length ≤ 1000000) (w : World) (hp : DAt w d p) (hq : DAt w d q) :
    Calls Tryz.prog 7 #[DV d p, DV d q] w fun e w' => e = .returned (.bool true) ∧ Below w.heap.size w w' :=
  xsame_go _ _ _ _ _ _ _ _ _ _ _ _ _ _ _ _ _ _ _ _ _ _ _ _ _ _ _ _ _ _ _ _ _ _ _ _ _ _ rfl rfl rfl rfl h1 h2 h3 h4 w hp.win hp.ahead hp.queue hp.took hq.win hq.ahead hq.queue hq.took
end Go.Proofs.YtomldoijcclhhaaGreat

namespace Go.Proofs.YtomldoijcclhhaaGreat
open Go.RowKit
set_option maxHeartbeats 2000000 in
set_option maxRecDepth 100000 in
theorem dquiet (lt : Int) (c1 c2 c3 c4 c5 c6 c7 c8 c10 c11 c12 c13 c15 c16 c17 : Value) (wl qa : Option Addr) (wc qc : Nat) (w : World) : Calls Tryz.prog 20 #[.agg #[.int .i64 lt, c1, c2, c3, c4, c5, c6, c7, c8, .slice wl 0 wc, c10, c11, c12, c13, .slice qa 0 qc, c15, c16, c17]] w fun e w' => e = .returned (.bool true) ∧ Below w.heap.size w w' := by
  have k : Hid (Rg.Bk w.heap.size [.int .i64 lt, c1, c2, c3, c4, c5, c6, c7, c8, .slice wl 0 wc, c10, c11, c12, c13, .slice qa 0 qc, c15, c16, c17] 29 (w.alloc (.cells #[.int .i64 lt, c1, c2, c3, c4, c5, c6, c7, c8, .slice wl 0 wc, c10, c11, c12, c13, .slice qa 0 qc, c15, c16, c17] 29))) := Rg.Bk.new rfl
  have hb := Rg.hid (Rg.al1 w (.cells #[.int .i64 lt, c1, c2, c3, c4, c5, c6, c7, c8, .slice wl 0 wc, c10, c11, c12, c13, .slice qa 0 qc, c15, c16, c17] 29))
  go_enter Tryz.func20, Tryz.ntmps20
  go_upto_region 1 with fail
  generalize World.alloc _ _ = w1 at *
  obtain ⟨B, hB⟩ : ∃ B, B = w.heap.size := ⟨_, rfl⟩
  rw [← hB] at k ⊢
  have hBw : Hid (w.heap.size ≤ B) := by show _ ≤ _; omega
  clear hB
  have z9 : w1.cell? ⟨B, 9, none⟩ = some (.slice wl 0 wc) := k.out.cell 9
  have z14 : w1.cell? ⟨B, 14, none⟩ = some (.slice qa 0 qc) := k.out.cell 14
  clear k
  go_wp2
  go_ret
  exact ⟨rfl, hb.out⟩
set_option maxHeartbeats 2000000 in
set_option maxRecDepth 100000 in
theorem dchan (lt : Int) (hl : (lt == 105) = false) (c1 c2 c3 c4 c5 c6 c7 c8 c10 c11 c12 c13 c15 c16 c17 : Value) (wl qa : Option Addr) (wc qc : Nat) (w : World) : Calls Tryz.prog 19 #[.agg #[.int .i64 lt, c1, c2, c3, c4, c5, c6, c7, c8, .slice wl 0 wc, c10, c11, c12, c13, .slice qa 0 qc, c15, c16, c17]] w fun e w' => e = .returned (.int .i64 1) ∧ Below w.heap.size w w' := by
  have k : Hid (Rg.Bk w.heap.size [.int .i64 lt, c1, c2, c3, c4, c5, c6, c7, c8, .slice wl 0 wc, c10, c11, c12, c13, .slice qa 0 qc, c15, c16, c17] 29 (w.alloc (.cells #[.int .i64 lt, c1, c2, c3, c4, c5, c6, c7, c8, .slice wl 0 wc, c10, c11, c12, c13, .slice qa 0 qc, c15, c16, c17] 29))) := Rg.Bk.new rfl
  have hb := Rg.hid (Rg.al1 w (.cells #[.int .i64 lt, c1, c2, c3, c4, c5, c6, c7, c8, .slice wl 0 wc, c10, c11, c12, c13, .slice qa 0 qc, c15, c16, c17] 29))
  go_enter Tryz.func19, Tryz.ntmps19
  go_upto_region 1 with fail
  generalize World.alloc _ _ = w1 at *
  obtain ⟨B, hB⟩ : ∃ B, B = w.heap.size := ⟨_, rfl⟩
  rw [← hB] at k ⊢
  have hBw : Hid (w.heap.size ≤ B) := by show _ ≤ _; omega
  clear hB
  have z0 : w1.cell? ⟨B, 0, none⟩ = some (.int .i64 lt) := k.out.cell 0
  clear k
  go_wp2
  go_ret
  exact ⟨rfl, hb.out⟩
set_option maxHeartbeats 2000000 in
set_option maxRecDepth 100000 in
theorem dnums (wa aa qa ta : Option Addr) (wc ac qc tc : Nat) (w : World) : Calls Tryz.prog 78 #[.agg #[.int .i64 101, .int .i64 2, .bool true, .int .i64 0, .int .i64 0, .int .i64 0, .int .i64 0, .int .i64 0, .int .i64 0, .slice wa 0 wc, .int .i64 0, .slice aa 0 ac, .string ⟨#[]⟩, .int .i64 0, .slice qa 0 qc, .int .i64 0, .int .i64 0, .slice ta 0 tc]] w fun e w' => e = .returned (.bool true) ∧ Below w.heap.size w w' := by
  have kB : Hid (Rg.Bk w.heap.size [.int .i64 101, .int .i64 2, .bool true, .int .i64 0, .int .i64 0, .int .i64 0, .int .i64 0, .int .i64 0, .int .i64 0, .slice wa 0 wc, .int .i64 0, .slice aa 0 ac, .string ⟨#[]⟩, .int .i64 0, .slice qa 0 qc, .int .i64 0, .int .i64 0, .slice ta 0 tc] 29 ((w.alloc (.cells #[.int .i64 101, .int .i64 2, .bool true, .int .i64 0, .int .i64 0, .int .i64 0, .int .i64 0, .int .i64 0, .int .i64 0, .slice wa 0 wc, .int .i64 0, .slice aa 0 ac, .string ⟨#[]⟩, .int .i64 0, .slice qa 0 qc, .int .i64 0, .int .i64 0, .slice ta 0 tc] 29)).alloc (.cells #[.int .i64 0, .int .i64 0, .int .i64 0, .slice wa 0 wc] 24))) := (Rg.Bk.new rfl).old _
  have kV : Hid (Rg.Bk (w.heap.size + 1) [.int .i64 0, .int .i64 0, .int .i64 0, .slice wa 0 wc] 24 ((w.alloc (.cells #[.int .i64 101, .int .i64 2, .bool true, .int .i64 0, .int .i64 0, .int .i64 0, .int .i64 0, .int .i64 0, .int .i64 0, .slice wa 0 wc, .int .i64 0, .slice aa 0 ac, .string ⟨#[]⟩, .int .i64 0, .slice qa 0 qc, .int .i64 0, .int .i64 0, .slice ta 0 tc] 29)).alloc (.cells #[.int .i64 0, .int .i64 0, .int .i64 0, .slice wa 0 wc] 24))) := Rg.Bk.new (by simp)
  have hb := Rg.hid (Rg.al2 w (.cells #[.int .i64 101, .int .i64 2, .bool true, .int .i64 0, .int .i64 0, .int .i64 0, .int .i64 0, .int .i64 0, .int .i64 0, .slice wa 0 wc, .int .i64 0, .slice aa 0 ac, .string ⟨#[]⟩, .int .i64 0, .slice qa 0 qc, .int .i64 0, .int .i64 0, .slice ta 0 tc] 29) (.cells #[.int .i64 0, .int .i64 0, .int .i64 0, .slice wa 0 wc] 24))
  go_enter Tryz.func78, Tryz.ntmps78
  go_upto_region 2 with fail
  generalize World.alloc _ _ = w1 at *
  obtain ⟨B, hB⟩ : ∃ B, B = w.heap.size := ⟨_, rfl⟩
  obtain ⟨V, hV⟩ : ∃ V, V = w.heap.size + 1 := ⟨_, rfl⟩
  rw [← hV] at kV ⊢
  rw [← hB] at kB ⊢
  clear hB hV
  have z3 : w1.cell? ⟨B, 3, none⟩ = some (.int .i64 0) := kB.out.cell 3
  have z4 : w1.cell? ⟨B, 4, none⟩ = some (.int .i64 0) := kB.out.cell 4
  have z5 : w1.cell? ⟨B, 5, none⟩ = some (.int .i64 0) := kB.out.cell 5
  have z10 : w1.cell? ⟨B, 10, none⟩ = some (.int .i64 0) := kB.out.cell 10
  have z15 : w1.cell? ⟨B, 15, none⟩ = some (.int .i64 0) := kB.out.cell 15
  have z16 : w1.cell? ⟨B, 16, none⟩ = some (.int .i64 0) := kB.out.cell 16
  have y0 : w1.cell? ⟨V, 0, none⟩ = some (.int .i64 0) := kV.out.cell 0
  have y1 : w1.cell? ⟨V, 1, none⟩ = some (.int .i64 0) := kV.out.cell 1
  have y2 : w1.cell? ⟨V, 2, none⟩ = some (.int .i64 0) := kV.out.cell 2
  clear kB kV
  go_wp2
  go_ret
  exact ⟨rfl, hb.out⟩
set_option maxHeartbeats 2000000 in
set_option maxRecDepth 100000 in
theorem dbytes (wa aa qa ta : Option Addr) (wc ac qc tc : Nat) (w : World) : Calls Tryz.prog 79 #[.agg #[.int .i64 101, .int .i64 2, .bool true, .int .i64 0, .int .i64 0, .int .i64 0, .int .i64 0, .int .i64 0, .int .i64 0, .slice wa 0 wc, .int .i64 0, .slice aa 0 ac, .string ⟨#[]⟩, .int .i64 0, .slice qa 0 qc, .int .i64 0, .int .i64 0, .slice ta 0 tc]] w fun e w' => e = .returned (.bool true) ∧ Below w.heap.size w w' := by
  have k : Hid (Rg.Bk w.heap.size [.int .i64 101, .int .i64 2, .bool true, .int .i64 0, .int .i64 0, .int .i64 0, .int .i64 0, .int .i64 0, .int .i64 0, .slice wa 0 wc, .int .i64 0, .slice aa 0 ac, .string ⟨#[]⟩, .int .i64 0, .slice qa 0 qc, .int .i64 0, .int .i64 0, .slice ta 0 tc] 29 (w.alloc (.cells #[.int .i64 101, .int .i64 2, .bool true, .int .i64 0, .int .i64 0, .int .i64 0, .int .i64 0, .int .i64 0, .int .i64 0, .slice wa 0 wc, .int .i64 0, .slice aa 0 ac, .string ⟨#[]⟩, .int .i64 0, .slice qa 0 qc, .int .i64 0, .int .i64 0, .slice ta 0 tc] 29))) := Rg.Bk.new rfl
  have hb := Rg.hid (Rg.al1 w (.cells #[.int .i64 101, .int .i64 2, .bool true, .int .i64 0, .int .i64 0, .int .i64 0, .int .i64 0, .int .i64 0, .int .i64 0, .slice wa 0 wc, .int .i64 0, .slice aa 0 ac, .string ⟨#[]⟩, .int .i64 0, .slice qa 0 qc, .int .i64 0, .int .i64 0, .slice ta 0 tc] 29))
  have HQ : Hid (∀ W, Calls Tryz.prog 20 #[.agg #[.int .i64 101, .int .i64 2, .bool true, .int .i64 0, .int .i64 0, .int .i64 0, .int .i64 0, .int .i64 0, .int .i64 0, .slice wa 0 wc, .int .i64 0, .slice aa 0 ac, .string ⟨#[]⟩, .int .i64 0, .slice qa 0 qc, .int .i64 0, .int .i64 0, .slice ta 0 tc]] W fun e w' => e = .returned (.bool true) ∧ Below W.heap.size W w') := fun W => dquiet 101 _ _ _ _ _ _ _ _ _ _ _ _ _ _ _ _ _ _ _ W
  go_enter Tryz.func79, Tryz.ntmps79
  go_upto_region 1 with fail
  generalize World.alloc _ _ = w1 at *
  obtain ⟨B, hB⟩ : ∃ B, B = w.heap.size := ⟨_, rfl⟩
  rw [← hB] at k ⊢
  have hBw : Hid (w.heap.size ≤ B) := by show _ ≤ _; omega
  clear hB
  have hld := Rg.hid (Rg.row_loadVar (P := Tryz.prog) (t := 29) (CS := #[.int .i64 101, .int .i64 2, .bool true, .int .i64 0, .int .i64 0, .int .i64 0, .int .i64 0, .int .i64 0, .int .i64 0, .slice wa 0 wc, .int .i64 0, .slice aa 0 ac, .string ⟨#[]⟩, .int .i64 0, .slice qa 0 qc, .int .i64 0, .int .i64 0, .slice ta 0 tc]) k.out Tryz.underlying29 rfl xinfoDr)
  go_wp2_with (first | (with_reducible refine is_load (.tmp 1) 29 ?_; refine list_load (.tmp 1) 29 rfl hld.out ?_) | (go_at_call 20; refine (HQ.out _).mono ?_; rintro e w2 ⟨rfl, b2⟩; have k2 := Rg.hid (k.out.below b2 k.out.lt); have z11 : w2.cell? ⟨B, 11, none⟩ = some (.slice aa 0 ac) := k2.out.cell 11; have z12 : w2.cell? ⟨B, 12, none⟩ = some (.string ⟨#[]⟩) := k2.out.cell 12))
  go_ret
  exact ⟨rfl, Rg.chain hb.out b2⟩
set_option maxHeartbeats 2000000 in
set_option maxRecDepth 100000 in
theorem dright (wa aa qa ta : Option Addr) (wc ac qc tc : Nat) (w : World) : Calls Tryz.prog 38 #[.agg #[.int .i64 101, .int .i64 2, .bool true, .int .i64 0, .int .i64 0, .int .i64 0, .int .i64 0, .int .i64 0, .int .i64 0, .slice wa 0 wc, .int .i64 0, .slice aa 0 ac, .string ⟨#[]⟩, .int .i64 0, .slice qa 0 qc, .int .i64 0, .int .i64 0, .slice ta 0 tc]] w fun e w' => e = .returned (.bool true) ∧ Below w.heap.size w w' := by
  have k : Hid (Rg.Bk w.heap.size [.int .i64 101, .int .i64 2, .bool true, .int .i64 0, .int .i64 0, .int .i64 0, .int .i64 0, .int .i64 0, .int .i64 0, .slice wa 0 wc, .int .i64 0, .slice aa 0 ac, .string ⟨#[]⟩, .int .i64 0, .slice qa 0 qc, .int .i64 0, .int .i64 0, .slice ta 0 tc] 29 (w.alloc (.cells #[.int .i64 101, .int .i64 2, .bool true, .int .i64 0, .int .i64 0, .int .i64 0, .int .i64 0, .int .i64 0, .int .i64 0, .slice wa 0 wc, .int .i64 0, .slice aa 0 ac, .string ⟨#[]⟩, .int .i64 0, .slice qa 0 qc, .int .i64 0, .int .i64 0, .slice ta 0 tc] 29))) := Rg.Bk.new rfl
  have hb := Rg.hid (Rg.al1 w (.cells #[.int .i64 101, .int .i64 2, .bool true, .int .i64 0, .int .i64 0, .int .i64 0, .int .i64 0, .int .i64 0, .int .i64 0, .slice wa 0 wc, .int .i64 0, .slice aa 0 ac, .string ⟨#[]⟩, .int .i64 0, .slice qa 0 qc, .int .i64 0, .int .i64 0, .slice ta 0 tc] 29))
  have HN : Hid (∀ W, Calls Tryz.prog 78 #[.agg #[.int .i64 101, .int .i64 2, .bool true, .int .i64 0, .int .i64 0, .int .i64 0, .int .i64 0, .int .i64 0, .int .i64 0, .slice wa 0 wc, .int .i64 0, .slice aa 0 ac, .string ⟨#[]⟩, .int .i64 0, .slice qa 0 qc, .int .i64 0, .int .i64 0, .slice ta 0 tc]] W fun e w' => e = .returned (.bool true) ∧ Below W.heap.size W w') := dnums wa aa qa ta wc ac qc tc
  have HB : Hid (∀ W, Calls Tryz.prog 79 #[.agg #[.int .i64 101, .int .i64 2, .bool true, .int .i64 0, .int .i64 0, .int .i64 0, .int .i64 0, .int .i64 0, .int .i64 0, .slice wa 0 wc, .int .i64 0, .slice aa 0 ac, .string ⟨#[]⟩, .int .i64 0, .slice qa 0 qc, .int .i64 0, .int .i64 0, .slice ta 0 tc]] W fun e w' => e = .returned (.bool true) ∧ Below W.heap.size W w') := dbytes wa aa qa ta wc ac qc tc
  go_enter Tryz.func38, Tryz.ntmps38
  go_upto_region 1 with fail
  generalize World.alloc _ _ = w1 at *
  obtain ⟨B, hB⟩ : ∃ B, B = w.heap.size := ⟨_, rfl⟩
  rw [← hB] at k ⊢
  have hBw : Hid (w.heap.size ≤ B) := by show _ ≤ _; omega
  clear hB
  have hl1 := Rg.hid (Rg.row_loadVar (P := Tryz.prog) (t := 29) (CS := #[.int .i64 101, .int .i64 2, .bool true, .int .i64 0, .int .i64 0, .int .i64 0, .int .i64 0, .int .i64 0, .int .i64 0, .slice wa 0 wc, .int .i64 0, .slice aa 0 ac, .string ⟨#[]⟩, .int .i64 0, .slice qa 0 qc, .int .i64 0, .int .i64 0, .slice ta 0 tc]) k.out Tryz.underlying29 rfl xinfoDr)
  have z0 : w1.cell? ⟨B, 0, none⟩ = some (.int .i64 101) := k.out.cell 0
  have z1 : w1.cell? ⟨B, 1, none⟩ = some (.int .i64 2) := k.out.cell 1
  have z13 : w1.cell? ⟨B, 13, none⟩ = some (.int .i64 0) := k.out.cell 13
  go_wp2_with (first | (refine Rg.wpList_load_row rfl (.tmp 1) 29 rfl rfl hl1.out ?_) | (refine Rg.wpList_load_row rfl (.tmp 1) 29 rfl rfl hl2.out ?_) | (go_at_call 78; refine (HN.out _).mono ?_; rintro e w2 ⟨rfl, b2⟩; have k2 := Rg.hid (k.out.below b2 k.out.lt); have hb2 := Rg.hid (Rg.chain hb.out b2); clear hl1 HN; have hl2 := Rg.hid (Rg.row_loadVar (P := Tryz.prog) (t := 29) (CS := #[.int .i64 101, .int .i64 2, .bool true, .int .i64 0, .int .i64 0, .int .i64 0, .int .i64 0, .int .i64 0, .int .i64 0, .slice wa 0 wc, .int .i64 0, .slice aa 0 ac, .string ⟨#[]⟩, .int .i64 0, .slice qa 0 qc, .int .i64 0, .int .i64 0, .slice ta 0 tc]) k2.out Tryz.underlying29 rfl xinfoDr)) | (go_at_call 79; refine (HB.out _).mono ?_; rintro e w3 ⟨rfl, b3⟩))
  go_ret
  exact ⟨rfl, Rg.chain hb2.out b3⟩
end Go.Proofs.YtomldoijcclhhaaGreat
