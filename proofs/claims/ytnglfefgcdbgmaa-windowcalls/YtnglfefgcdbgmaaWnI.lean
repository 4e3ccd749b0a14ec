/-
  Walks of layer 14's statements: far; WindowCalls.
-/
import Derived.Test.YtnglfefgcdbgmaaWnF
import Derived.Test.YtnglfefgcdbgmaaWnH
import Derived.Test.YtnglfefgcdbgmaaWnB
namespace Go.Proofs.Ytnglfefgcdbgmaa
open Go.RowKit
def Wn.big (s : ByteArray) : Bool := decide (3000 < s.size)
def Wn.far (n : Nat) (l : List ByteArray) : Bool := decide (200 < n) || l.any Wn.big
set_option maxHeartbeats 4000000 in
set_option maxRecDepth 100000 in
theorem far_go (m s b : Int) (a : Option Addr) (n c : Nat) (l : List ByteArray) (hnl : Hid (n = l.length)) (F : Bool) (hF : Hid (Wn.far n l = F)) (w : World) (hr : Hid (SRow w a l)) :
    Calls Try.prog 14 #[.agg #[.int .i64 m, .int .i64 s, .int .i64 b, .slice a n c]] w fun e w' => e = .returned (.bool F) ∧ Below w.heap.size w w' := by
  have kB1 : Hid (Rg.Bk w.heap.size [.int .i64 m, .int .i64 s, .int .i64 b, .slice a n c] 24 (w.alloc (.cells #[.int .i64 m, .int .i64 s, .int .i64 b, .slice a n c] 24))) := Rg.Bk.new rfl
  have hb1 := Rg.hid (Rg.al1 w (.cells #[.int .i64 m, .int .i64 s, .int .i64 b, .slice a n c] 24))
  by_cases hn : 200 < n
  · have hF2 : F = true := by rw [← hF.out]; unfold Wn.far; rw [decide_eq_true hn]; rfl
    subst hF2
    clear hF hr
    go_enter Try.func14, Try.ntmps14
    go_upto_region 1 with fail
    generalize World.alloc _ _ = w1 at *
    have z3 : w1.cell? ⟨w.heap.size, 3, none⟩ = some (.slice a n c) := kB1.out.cell 3
    go_wp2
    go_ret
    exact ⟨rfl, hb1.out⟩
  · have hF2 : Hid ((l.drop 0).any Wn.big = F) := by show _ = _; rw [← hF.out]; unfold Wn.far; rw [decide_eq_false hn]; rfl
    clear hF
    go_enter Try.func14, Try.ntmps14
    go_upto_region 1 with fail
    generalize World.alloc _ _ = w1 at *
    have z3 : w1.cell? ⟨w.heap.size, 3, none⟩ = some (.slice a n c) := kB1.out.cell 3
    go_wp2
    go_loopw [12] (fun vi wr => wr = w1 ∧ ∃ i : Nat, i ≤ n ∧ vi = .int .i64 i ∧ Hid ((l.drop i).any Wn.big = F)) (fun vi _ => n - (intOf vi).toNat)
    case atStart => exact ⟨rfl, 0, Nat.zero_le _, rfl, hF2⟩
    case round =>
      obtain ⟨hww, i, hin, rfl, hFi⟩ := hrel
      obtain rfl := hww.symm
      by_cases hlt : i < n
      · have hil : i < l.length := by rw [← hnl.out]; exact hlt
        obtain ⟨ab, ao, rfl, _, _, y1⟩ := (hr.out.below hb1.out).cell hil
        have hd : Hid ((Wn.big l[i] || (l.drop (i + 1)).any Wn.big) = F) := by
          show _ = _
          rw [← hFi.out, List.drop_eq_getElem_cons hil, List.any_cons]
        generalize l[i] = D at *
        have iz0 : (0 : Int) ≤ (i : Int) := by omega
        have iz1 : (i : Int) < (n : Int) := by omega
        unfold Wn.big at hd
        by_cases hs : 3000 < D.size
        · have hF3 : F = true := by rw [← hd.out, decide_eq_true hs]; rfl
          subst hF3
          have d1 : decide ((3000 : Int) < (D.size : Int)) = true := by simp; omega
          clear hd hFi hF2 hr
          go_wp2
          go_ret
          exact ⟨rfl, hb1.out⟩
        · have hd2 : Hid ((l.drop (i + 1)).any Wn.big = F) := by
            show _ = _
            rw [← hd.out, decide_eq_false hs, Bool.false_or]
            rfl
          have d1 : decide ((3000 : Int) < (D.size : Int)) = false := by simp; omega
          clear hd hFi hF2 hr
          go_wp2
          go_roundw
          case rel => exact ⟨trivial, i + 1, by omega, by go_num, hd2⟩
          case measure => simp [intOf]; omega
      · have hie : i = n := by omega
        subst hie
        have hF3 : F = false := by rw [← hFi.out, List.drop_of_length_le (by rw [← hnl.out]; exact Nat.le_refl _)]; rfl
        subst hF3
        go_wp2
        go_ret
        exact ⟨rfl, hb1.out⟩
set_option maxHeartbeats 4000000 in
set_option maxRecDepth 100000 in
theorem calls_core (m s b k : Int) (a : Option Addr) (n c : Nat) (x : ByteArray) (ym ys yb N zm zs zb : Int) (yn zn er K q : Nat) (yl zl : List ByteArray) (t : ByteArray) (f : Bool) (Q : List Int) (hQ : Hid (q = Q.length)) (hq : q ≤ 1000) (w : World)
    (HF : Hid (∀ W, Below w.heap.size w W → Calls Try.prog 14 #[.agg #[.int .i64 m, .int .i64 s, .int .i64 b, .slice a n c]] W fun e w' => e = .returned (.bool false) ∧ Hid (Below W.heap.size W w'))) (hx : decide ((3000 : Int) < (x.size : Int)) = false)
    (HP : Hid (∀ W, Below w.heap.size w W → Calls Try.prog 15 #[.agg #[.int .i64 m, .int .i64 s, .int .i64 b, .slice a n c], .string x] W fun e w' => ∃ a' c', e = .returned (.tuple #[.agg #[.int .i64 ym, .int .i64 ys, .int .i64 yb, .slice a' yn c'], .int .i64 N, .int .i64 (er : Nat)]) ∧ Hid (SRow w' a' yl) ∧ Hid (Below W.heap.size W w')))
    (HPr : Hid (∀ W, Below w.heap.size w W → Calls Try.prog 16 #[.agg #[.int .i64 m, .int .i64 s, .int .i64 b, .slice a n c], .string x] W fun e w' => ∃ a' c', e = .returned (.tuple #[.agg #[.int .i64 ym, .int .i64 ys, .int .i64 yb, .slice a' yn c'], .int .i64 N, .int .i64 (er : Nat)]) ∧ Hid (SRow w' a' yl) ∧ Hid (Below W.heap.size W w')))
    (HK : Hid (∀ W, Below w.heap.size w W → Calls Try.prog 17 #[.agg #[.int .i64 m, .int .i64 s, .int .i64 b, .slice a n c], .int .i64 k] W fun e w' => ∃ a' c', e = .returned (.tuple #[.agg #[.int .i64 zm, .int .i64 zs, .int .i64 zb, .slice a' zn c'], .int .i64 (K : Nat)]) ∧ Hid (SRow w' a' zl) ∧ Hid (Below W.heap.size W w')))
    (HKr : Hid (∀ W, Below w.heap.size w W → Calls Try.prog 18 #[.agg #[.int .i64 m, .int .i64 s, .int .i64 b, .slice a n c], .int .i64 k] W fun e w' => ∃ a' c', e = .returned (.tuple #[.agg #[.int .i64 zm, .int .i64 zs, .int .i64 zb, .slice a' zn c'], .int .i64 (K : Nat)]) ∧ Hid (SRow w' a' zl) ∧ Hid (Below W.heap.size W w')))
    (HG : Hid (∀ W, Below w.heap.size w W → Calls Try.prog 19 #[.agg #[.int .i64 m, .int .i64 s, .int .i64 b, .slice a n c], .int .i64 k] W fun e w' => e = .returned (.tuple #[.string t, .bool f]) ∧ Hid (Below W.heap.size W w')))
    (HGr : Hid (∀ W, Below w.heap.size w W → Calls Try.prog 20 #[.agg #[.int .i64 m, .int .i64 s, .int .i64 b, .slice a n c], .int .i64 k] W fun e w' => e = .returned (.tuple #[.string t, .bool f]) ∧ Hid (Below W.heap.size W w')))
    (HN : Hid (∀ W, Below w.heap.size w W → Calls Try.prog 21 #[.agg #[.int .i64 m, .int .i64 s, .int .i64 b, .slice a n c]] W fun e w' => ∃ a' c', e = .returned (.slice a' q c') ∧ Hid (NRow w' a' Q) ∧ Hid (Below W.heap.size W w')))
    (HNr : Hid (∀ W, Below w.heap.size w W → Calls Try.prog 22 #[.agg #[.int .i64 m, .int .i64 s, .int .i64 b, .slice a n c]] W fun e w' => ∃ a' c', e = .returned (.slice a' q c') ∧ Hid (NRow w' a' Q) ∧ Hid (Below W.heap.size W w')))
    (HSy : Hid (∀ a1 c1 a2 c2 W, SRow W a1 yl → SRow W a2 yl → Calls Try.prog 12 #[.agg #[.int .i64 ym, .int .i64 ys, .int .i64 yb, .slice a1 yn c1], .agg #[.int .i64 ym, .int .i64 ys, .int .i64 yb, .slice a2 yn c2]] W fun e w' => e = .returned (.bool true) ∧ Hid (Below W.heap.size W w')))
    (HSz : Hid (∀ a1 c1 a2 c2 W, SRow W a1 zl → SRow W a2 zl → Calls Try.prog 12 #[.agg #[.int .i64 zm, .int .i64 zs, .int .i64 zb, .slice a1 zn c1], .agg #[.int .i64 zm, .int .i64 zs, .int .i64 zb, .slice a2 zn c2]] W fun e w' => e = .returned (.bool true) ∧ Hid (Below W.heap.size W w')))
    (HA : Hid (∀ W, Below w.heap.size w W → Calls Try.prog 13 #[] W fun e w' => e = .returned (.bool true) ∧ Below w.heap.size w w')) :
    Calls Try.prog 4 #[.agg #[.int .i64 m, .int .i64 s, .int .i64 b, .slice a n c], .int .i64 k, .string x] w fun e w' => e = .returned (.bool true) ∧ Below w.heap.size w w' := by
  have kB1 : Hid (Rg.Bk w.heap.size [.int .i64 m, .int .i64 s, .int .i64 b, .slice a n c] 24 (w.alloc (.cells #[.int .i64 m, .int .i64 s, .int .i64 b, .slice a n c] 24))) := Rg.Bk.new rfl
  have hb1 := Rg.hid (Rg.al1 w (.cells #[.int .i64 m, .int .i64 s, .int .i64 b, .slice a n c] 24))
  go_enter Try.func4, Try.ntmps4
  go_upto_region 1 with fail
  generalize World.alloc _ _ = w1 at *
  obtain ⟨B, hB⟩ : ∃ B, B = w.heap.size := ⟨_, rfl⟩
  rw [← hB] at kB1 ⊢
  clear hB
  replace kB1 := kB1.out
  have z0 : w1.cell? ⟨B, 0, none⟩ = some (.int .i64 m) := kB1.cell 0
  have z1 : w1.cell? ⟨B, 1, none⟩ = some (.int .i64 s) := kB1.cell 1
  have z2 : w1.cell? ⟨B, 2, none⟩ = some (.int .i64 b) := kB1.cell 2
  have z3 : w1.cell? ⟨B, 3, none⟩ = some (.slice a n c) := kB1.cell 3
  go_upto_region 3 with (go_at_call 14; refine (HF.out _ hb1.out).mono ?_; rintro e w2 ⟨rfl, b1⟩)
  have hb2 := Rg.hid (Rg.chain hb1.out b1.out)
  have kB2 := kB1.below b1.out kB1.lt
  clear b1 kB1 hb1 HF z0 z1 z2 z3
  have z0 : w2.cell? ⟨B, 0, none⟩ = some (.int .i64 m) := kB2.cell 0
  have z1 : w2.cell? ⟨B, 1, none⟩ = some (.int .i64 s) := kB2.cell 1
  have z2 : w2.cell? ⟨B, 2, none⟩ = some (.int .i64 b) := kB2.cell 2
  have z3 : w2.cell? ⟨B, 3, none⟩ = some (.slice a n c) := kB2.cell 3
  go_upto_region 4 with (go_at_call 15; refine (HP.out _ hb2.out).mono ?_; rintro e u2 ⟨a2, c2, rfl, r2, b2⟩)
  have bb2 := Rg.chain b2.out (Rg.al1 u2 (.cells #[.int .i64 ym, .int .i64 ys, .int .i64 yb, .slice a2 yn c2] 24))
  have kV2 : Hid (Rg.Bk u2.heap.size [.int .i64 ym, .int .i64 ys, .int .i64 yb, .slice a2 yn c2] 24 (u2.alloc (.cells #[.int .i64 ym, .int .i64 ys, .int .i64 yb, .slice a2 yn c2] 24))) := Rg.Bk.new rfl
  have rV2 := Rg.hid (r2.out.below (Rg.al1 u2 (.cells #[.int .i64 ym, .int .i64 ys, .int .i64 yb, .slice a2 yn c2] 24)))
  generalize World.alloc _ _ = w3 at *
  obtain ⟨V2, hV2⟩ : ∃ V, V = u2.heap.size := ⟨_, rfl⟩
  rw [← hV2] at kV2 ⊢
  have hb3 := Rg.hid (Rg.chain hb2.out bb2)
  have kB3 := kB2.below bb2 kB2.lt
  clear hV2 r2 b2 bb2 kB2 hb2 HP z0 z1 z2 z3 
  have z0 : w3.cell? ⟨B, 0, none⟩ = some (.int .i64 m) := kB3.cell 0
  have z1 : w3.cell? ⟨B, 1, none⟩ = some (.int .i64 s) := kB3.cell 1
  have z2 : w3.cell? ⟨B, 2, none⟩ = some (.int .i64 b) := kB3.cell 2
  have z3 : w3.cell? ⟨B, 3, none⟩ = some (.slice a n c) := kB3.cell 3
  go_upto_region 5 with (go_at_call 16; refine (HPr.out _ hb3.out).mono ?_; rintro e u3 ⟨a3, c3, rfl, r3, b3⟩)
  have bb3 := Rg.chain b3.out (Rg.al1 u3 (.cells #[.int .i64 ym, .int .i64 ys, .int .i64 yb, .slice a3 yn c3] 24))
  have kV3 : Hid (Rg.Bk u3.heap.size [.int .i64 ym, .int .i64 ys, .int .i64 yb, .slice a3 yn c3] 24 (u3.alloc (.cells #[.int .i64 ym, .int .i64 ys, .int .i64 yb, .slice a3 yn c3] 24))) := Rg.Bk.new rfl
  have rV3 := Rg.hid (r3.out.below (Rg.al1 u3 (.cells #[.int .i64 ym, .int .i64 ys, .int .i64 yb, .slice a3 yn c3] 24)))
  generalize World.alloc _ _ = w4 at *
  obtain ⟨V3, hV3⟩ : ∃ V, V = u3.heap.size := ⟨_, rfl⟩
  rw [← hV3] at kV3 ⊢
  have hb4 := Rg.hid (Rg.chain hb3.out bb3)
  have kB4 := kB3.below bb3 kB3.lt
  have kV2_4 := Rg.hid (kV2.out.below bb3 kV2.out.lt)
  have rV2_4 := Rg.hid (rV2.out.below bb3)
  clear hV3 r3 b3 bb3 kB3 hb3 HPr z0 z1 z2 z3 kV2 rV2
  have z0 : w4.cell? ⟨B, 0, none⟩ = some (.int .i64 m) := kB4.cell 0
  have z1 : w4.cell? ⟨B, 1, none⟩ = some (.int .i64 s) := kB4.cell 1
  have z2 : w4.cell? ⟨B, 2, none⟩ = some (.int .i64 b) := kB4.cell 2
  have z3 : w4.cell? ⟨B, 3, none⟩ = some (.slice a n c) := kB4.cell 3
  go_upto_region 6 with (go_at_call 17; refine (HK.out _ hb4.out).mono ?_; rintro e u4 ⟨a4, c4, rfl, r4, b4⟩)
  have bb4 := Rg.chain b4.out (Rg.al1 u4 (.cells #[.int .i64 zm, .int .i64 zs, .int .i64 zb, .slice a4 zn c4] 24))
  have kV4 : Hid (Rg.Bk u4.heap.size [.int .i64 zm, .int .i64 zs, .int .i64 zb, .slice a4 zn c4] 24 (u4.alloc (.cells #[.int .i64 zm, .int .i64 zs, .int .i64 zb, .slice a4 zn c4] 24))) := Rg.Bk.new rfl
  have rV4 := Rg.hid (r4.out.below (Rg.al1 u4 (.cells #[.int .i64 zm, .int .i64 zs, .int .i64 zb, .slice a4 zn c4] 24)))
  generalize World.alloc _ _ = w5 at *
  obtain ⟨V4, hV4⟩ : ∃ V, V = u4.heap.size := ⟨_, rfl⟩
  rw [← hV4] at kV4 ⊢
  have hb5 := Rg.hid (Rg.chain hb4.out bb4)
  have kB5 := kB4.below bb4 kB4.lt
  have kV2_5 := Rg.hid (kV2_4.out.below bb4 kV2_4.out.lt)
  have rV2_5 := Rg.hid (rV2_4.out.below bb4)
  have kV3_5 := Rg.hid (kV3.out.below bb4 kV3.out.lt)
  have rV3_5 := Rg.hid (rV3.out.below bb4)
  clear hV4 r4 b4 bb4 kB4 hb4 HK z0 z1 z2 z3 kV2_4 rV2_4 kV3 rV3
  have z0 : w5.cell? ⟨B, 0, none⟩ = some (.int .i64 m) := kB5.cell 0
  have z1 : w5.cell? ⟨B, 1, none⟩ = some (.int .i64 s) := kB5.cell 1
  have z2 : w5.cell? ⟨B, 2, none⟩ = some (.int .i64 b) := kB5.cell 2
  have z3 : w5.cell? ⟨B, 3, none⟩ = some (.slice a n c) := kB5.cell 3
  go_upto_region 7 with (go_at_call 18; refine (HKr.out _ hb5.out).mono ?_; rintro e u5 ⟨a5, c5, rfl, r5, b5⟩)
  have bb5 := Rg.chain b5.out (Rg.al1 u5 (.cells #[.int .i64 zm, .int .i64 zs, .int .i64 zb, .slice a5 zn c5] 24))
  have kV5 : Hid (Rg.Bk u5.heap.size [.int .i64 zm, .int .i64 zs, .int .i64 zb, .slice a5 zn c5] 24 (u5.alloc (.cells #[.int .i64 zm, .int .i64 zs, .int .i64 zb, .slice a5 zn c5] 24))) := Rg.Bk.new rfl
  have rV5 := Rg.hid (r5.out.below (Rg.al1 u5 (.cells #[.int .i64 zm, .int .i64 zs, .int .i64 zb, .slice a5 zn c5] 24)))
  generalize World.alloc _ _ = w6 at *
  obtain ⟨V5, hV5⟩ : ∃ V, V = u5.heap.size := ⟨_, rfl⟩
  rw [← hV5] at kV5 ⊢
  have hb6 := Rg.hid (Rg.chain hb5.out bb5)
  have kB6 := kB5.below bb5 kB5.lt
  have kV2_6 := Rg.hid (kV2_5.out.below bb5 kV2_5.out.lt)
  have rV2_6 := Rg.hid (rV2_5.out.below bb5)
  have kV3_6 := Rg.hid (kV3_5.out.below bb5 kV3_5.out.lt)
  have rV3_6 := Rg.hid (rV3_5.out.below bb5)
  have kV4_6 := Rg.hid (kV4.out.below bb5 kV4.out.lt)
  have rV4_6 := Rg.hid (rV4.out.below bb5)
  clear hV5 r5 b5 bb5 kB5 hb5 HKr z0 z1 z2 z3 kV2_5 rV2_5 kV3_5 rV3_5 kV4 rV4
  have z0 : w6.cell? ⟨B, 0, none⟩ = some (.int .i64 m) := kB6.cell 0
  have z1 : w6.cell? ⟨B, 1, none⟩ = some (.int .i64 s) := kB6.cell 1
  have z2 : w6.cell? ⟨B, 2, none⟩ = some (.int .i64 b) := kB6.cell 2
  have z3 : w6.cell? ⟨B, 3, none⟩ = some (.slice a n c) := kB6.cell 3
  go_upto_region 8 with (go_at_call 19; refine (HG.out _ hb6.out).mono ?_; rintro e w7 ⟨rfl, b6⟩)
  have hb7 := Rg.hid (Rg.chain hb6.out b6.out)
  have kB7 := kB6.below b6.out kB6.lt
  have kV2_7 := Rg.hid (kV2_6.out.below b6.out kV2_6.out.lt)
  have rV2_7 := Rg.hid (rV2_6.out.below b6.out)
  have kV3_7 := Rg.hid (kV3_6.out.below b6.out kV3_6.out.lt)
  have rV3_7 := Rg.hid (rV3_6.out.below b6.out)
  have kV4_7 := Rg.hid (kV4_6.out.below b6.out kV4_6.out.lt)
  have rV4_7 := Rg.hid (rV4_6.out.below b6.out)
  have kV5_7 := Rg.hid (kV5.out.below b6.out kV5.out.lt)
  have rV5_7 := Rg.hid (rV5.out.below b6.out)
  clear b6 kB6 hb6 HG z0 z1 z2 z3 kV2_6 rV2_6 kV3_6 rV3_6 kV4_6 rV4_6 kV5 rV5
  have z0 : w7.cell? ⟨B, 0, none⟩ = some (.int .i64 m) := kB7.cell 0
  have z1 : w7.cell? ⟨B, 1, none⟩ = some (.int .i64 s) := kB7.cell 1
  have z2 : w7.cell? ⟨B, 2, none⟩ = some (.int .i64 b) := kB7.cell 2
  have z3 : w7.cell? ⟨B, 3, none⟩ = some (.slice a n c) := kB7.cell 3
  go_upto_region 9 with (go_at_call 20; refine (HGr.out _ hb7.out).mono ?_; rintro e w8 ⟨rfl, b7⟩)
  have hb8 := Rg.hid (Rg.chain hb7.out b7.out)
  have kB8 := kB7.below b7.out kB7.lt
  have kV2_8 := Rg.hid (kV2_7.out.below b7.out kV2_7.out.lt)
  have rV2_8 := Rg.hid (rV2_7.out.below b7.out)
  have kV3_8 := Rg.hid (kV3_7.out.below b7.out kV3_7.out.lt)
  have rV3_8 := Rg.hid (rV3_7.out.below b7.out)
  have kV4_8 := Rg.hid (kV4_7.out.below b7.out kV4_7.out.lt)
  have rV4_8 := Rg.hid (rV4_7.out.below b7.out)
  have kV5_8 := Rg.hid (kV5_7.out.below b7.out kV5_7.out.lt)
  have rV5_8 := Rg.hid (rV5_7.out.below b7.out)
  clear b7 kB7 hb7 HGr z0 z1 z2 z3 kV2_7 rV2_7 kV3_7 rV3_7 kV4_7 rV4_7 kV5_7 rV5_7
  have z0 : w8.cell? ⟨B, 0, none⟩ = some (.int .i64 m) := kB8.cell 0
  have z1 : w8.cell? ⟨B, 1, none⟩ = some (.int .i64 s) := kB8.cell 1
  have z2 : w8.cell? ⟨B, 2, none⟩ = some (.int .i64 b) := kB8.cell 2
  have z3 : w8.cell? ⟨B, 3, none⟩ = some (.slice a n c) := kB8.cell 3
  have HU1 : Hid (∀ W, Below w8.heap.size w8 W → Calls Try.prog 21 #[.agg #[.int .i64 m, .int .i64 s, .int .i64 b, .slice a n c]] W fun e w' => ∃ a' c', e = .returned (.slice a' q c') ∧ Hid (NRow w' a' Q) ∧ Below w8.heap.size w8 w' ∧ Hid (Below W.heap.size W w') ∧ w'.cell? ⟨B, 0, none⟩ = some (.int .i64 m) ∧ w'.cell? ⟨B, 1, none⟩ = some (.int .i64 s) ∧ w'.cell? ⟨B, 2, none⟩ = some (.int .i64 b) ∧ w'.cell? ⟨B, 3, none⟩ = some (.slice a n c)) := fun W hW => (HN.out W (Rg.chain hb8.out hW)).mono fun e w' ⟨a', c', h1, h2, h3⟩ => by
    have k := kB8.below (Rg.chain hW h3.out) kB8.lt
    exact ⟨a', c', h1, h2, Rg.chain hW h3.out, h3, k.cell 0, k.cell 1, k.cell 2, k.cell 3⟩
  have HU2 : Hid (∀ W, Below w8.heap.size w8 W → Calls Try.prog 22 #[.agg #[.int .i64 m, .int .i64 s, .int .i64 b, .slice a n c]] W fun e w' => ∃ a' c', e = .returned (.slice a' q c') ∧ Hid (NRow w' a' Q) ∧ Below w8.heap.size w8 w' ∧ Hid (Below W.heap.size W w') ∧ w'.cell? ⟨B, 0, none⟩ = some (.int .i64 m) ∧ w'.cell? ⟨B, 1, none⟩ = some (.int .i64 s) ∧ w'.cell? ⟨B, 2, none⟩ = some (.int .i64 b) ∧ w'.cell? ⟨B, 3, none⟩ = some (.slice a n c)) := fun W hW => (HNr.out W (Rg.chain hb8.out hW)).mono fun e w' ⟨a', c', h1, h2, h3⟩ => by
    have k := kB8.below (Rg.chain hW h3.out) kB8.lt
    exact ⟨a', c', h1, h2, Rg.chain hW h3.out, h3, k.cell 0, k.cell 1, k.cell 2, k.cell 3⟩
  clear HN HNr
  go_cut [21, 22] (fun s1 s2 wx => ∃ a1 c1 a2 c2, s1 = .slice a1 q c1 ∧ s2 = .slice a2 q c2 ∧ Hid (NRow wx a1 Q) ∧ Hid (NRow wx a2 Q) ∧ Hid (Below w8.heap.size w8 wx))
  case first =>
    clear hb8 kB8 kV2_8 rV2_8 kV3_8 rV3_8 kV4_8 rV4_8 kV5_8 rV5_8 HSy HSz HA
    go_region_held3 (fun w' => w'.cell? ⟨B, 0, none⟩ = some (.int .i64 m) ∧ w'.cell? ⟨B, 1, none⟩ = some (.int .i64 s) ∧ w'.cell? ⟨B, 2, none⟩ = some (.int .i64 b) ∧ w'.cell? ⟨B, 3, none⟩ = some (.slice a n c)) (go_keep) (first
      | (go_at_call 21; with_reducible refine (HU1.out _ ?_).mono ?_; (first | exact bW | exact bW.drew | exact Below.refl _ _ | exact (Below.refl _ _).drew); rintro e wP ⟨a1, c1, rfl, r1, bW, g1, p0, p1, p2, p3⟩)
      | (go_at_call 22; with_reducible refine (HU2.out _ ?_).mono ?_; (first | exact bW | exact bW.drew | exact Below.refl _ _ | exact (Below.refl _ _).drew); rintro e wQ ⟨a2, c2, rfl, r2, bW, g2, t0, t1, t2, t3⟩))
    · go_wp2_with fail
      go_meet
      exact ⟨a1, c1, a2, c2, rfl, rfl, r1.out.below g2.out, r2, bW⟩
  case rest =>
    obtain ⟨p1, pc, p2, qc, rfl, rfl, n1, n2, b8⟩ := hcut
    have hb9 := Rg.hid (Rg.chain hb8.out b8.out)
    have k2 := kV2_8.out.below b8.out kV2_8.out.lt
    have r2 := Rg.hid (rV2_8.out.below b8.out)
    have k3 := kV3_8.out.below b8.out kV3_8.out.lt
    have r3 := Rg.hid (rV3_8.out.below b8.out)
    have k4 := kV4_8.out.below b8.out kV4_8.out.lt
    have r4 := Rg.hid (rV4_8.out.below b8.out)
    have k5 := kV5_8.out.below b8.out kV5_8.out.lt
    have r5 := Rg.hid (rV5_8.out.below b8.out)
    clear HU1 HU2 kV2_8 rV2_8 kV3_8 rV3_8 kV4_8 rV4_8 kV5_8 rV5_8 z0 z1 z2 z3 kB8 hb8 b8
    replace k2 := Rg.hid k2
    replace k3 := Rg.hid k3
    replace k4 := Rg.hid k4
    replace k5 := Rg.hid k5
    go_wp2
    go_loopw [81] (fun vi wr => ∃ i : Nat, i ≤ q ∧ vi = .int .i64 i ∧ Below wc.heap.size wc wr) (fun vi _ => q - (intOf vi).toNat)
    case atStart => exact ⟨0, Nat.zero_le _, rfl, Below.refl _ _⟩
    case round =>
      obtain ⟨i, hin, rfl, hbw⟩ := hrel
      by_cases hlt : i < q
      · have hil : i < Q.length := by rw [← hQ.out]; exact hlt
        obtain ⟨b1, o1, rfl, _, y1⟩ := (n1.out.below hbw).cell hil
        obtain ⟨b2, o2, rfl, _, y2⟩ := (n2.out.below hbw).cell hil
        generalize Q[i] = D at *
        have iz0 : (0 : Int) ≤ (i : Int) := by omega
        have iz1 : (i : Int) < (q : Int) := by omega
        clear n1 n2 hil k2 k3 k4 k5 r2 r3 r4 r5 HSy HSz HA hb9
        go_upto_region 15 with fail
        go_quiet (fail)
        go_wp2
        go_roundw
        case rel => exact ⟨i + 1, by omega, by go_num, Rg.drewN hbw _⟩
        case measure => simp [intOf]; omega
      · have hie : i = q := by omega
        subst hie
        have e2 := k2.out.below hbw k2.out.lt
        have s2 := Rg.hid (r2.out.below hbw)
        have e3 := k3.out.below hbw k3.out.lt
        have s3 := Rg.hid (r3.out.below hbw)
        have e4 := k4.out.below hbw k4.out.lt
        have s4 := Rg.hid (r4.out.below hbw)
        have e5 := k5.out.below hbw k5.out.lt
        have s5 := Rg.hid (r5.out.below hbw)
        have hbA := Rg.hid (Rg.chain hb9.out hbw)
        have x2_0 : wr.cell? ⟨V2, 0, none⟩ = some (.int .i64 ym) := e2.cell 0
        have x2_1 : wr.cell? ⟨V2, 1, none⟩ = some (.int .i64 ys) := e2.cell 1
        have x2_2 : wr.cell? ⟨V2, 2, none⟩ = some (.int .i64 yb) := e2.cell 2
        have x2_3 : wr.cell? ⟨V2, 3, none⟩ = some (.slice a2 yn c2) := e2.cell 3
        have x3_0 : wr.cell? ⟨V3, 0, none⟩ = some (.int .i64 ym) := e3.cell 0
        have x3_1 : wr.cell? ⟨V3, 1, none⟩ = some (.int .i64 ys) := e3.cell 1
        have x3_2 : wr.cell? ⟨V3, 2, none⟩ = some (.int .i64 yb) := e3.cell 2
        have x3_3 : wr.cell? ⟨V3, 3, none⟩ = some (.slice a3 yn c3) := e3.cell 3
        have x4_0 : wr.cell? ⟨V4, 0, none⟩ = some (.int .i64 zm) := e4.cell 0
        have x4_1 : wr.cell? ⟨V4, 1, none⟩ = some (.int .i64 zs) := e4.cell 1
        have x4_2 : wr.cell? ⟨V4, 2, none⟩ = some (.int .i64 zb) := e4.cell 2
        have x4_3 : wr.cell? ⟨V4, 3, none⟩ = some (.slice a4 zn c4) := e4.cell 3
        have x5_0 : wr.cell? ⟨V5, 0, none⟩ = some (.int .i64 zm) := e5.cell 0
        have x5_1 : wr.cell? ⟨V5, 1, none⟩ = some (.int .i64 zs) := e5.cell 1
        have x5_2 : wr.cell? ⟨V5, 2, none⟩ = some (.int .i64 zb) := e5.cell 2
        have x5_3 : wr.cell? ⟨V5, 3, none⟩ = some (.slice a5 zn c5) := e5.cell 3
        clear n1 n2 k2 k3 k4 k5 r2 r3 r4 r5 e2 e3 hb9
        have HS2 : Hid (Calls Try.prog 12 #[.agg #[.int .i64 ym, .int .i64 ys, .int .i64 yb, .slice a2 yn c2], .agg #[.int .i64 ym, .int .i64 ys, .int .i64 yb, .slice a3 yn c3]] wr fun e w' => e = .returned (.bool true) ∧ Hid (Below wr.heap.size wr w') ∧ w'.cell? ⟨V4, 0, none⟩ = some (.int .i64 zm) ∧ w'.cell? ⟨V4, 1, none⟩ = some (.int .i64 zs) ∧ w'.cell? ⟨V4, 2, none⟩ = some (.int .i64 zb) ∧ w'.cell? ⟨V5, 0, none⟩ = some (.int .i64 zm) ∧ w'.cell? ⟨V5, 1, none⟩ = some (.int .i64 zs) ∧ w'.cell? ⟨V5, 2, none⟩ = some (.int .i64 zb) ∧ w'.cell? ⟨V4, 3, none⟩ = some (.slice a4 zn c4) ∧ w'.cell? ⟨V5, 3, none⟩ = some (.slice a5 zn c5)) := (HSy.out _ _ _ _ _ s2.out s3.out).mono fun e w' ⟨h1, h2⟩ => by
          have f4 := e4.below h2.out e4.lt
          have f5 := e5.below h2.out e5.lt
          exact ⟨h1, h2, f4.cell 0, f4.cell 1, f4.cell 2, f5.cell 0, f5.cell 1, f5.cell 2, f4.cell 3, f5.cell 3⟩
        have HS3 : Hid (∀ W, Below wr.heap.size wr W → Calls Try.prog 12 #[.agg #[.int .i64 zm, .int .i64 zs, .int .i64 zb, .slice a4 zn c4], .agg #[.int .i64 zm, .int .i64 zs, .int .i64 zb, .slice a5 zn c5]] W fun e w' => e = .returned (.bool true) ∧ Hid (Below W.heap.size W w')) := fun W hW => HSz.out _ _ _ _ _ (s4.out.below hW) (s5.out.below hW)
        clear HSy HSz s2 s3 s4 s5 e4 e5
        go_wp2_with (first
          | (go_at_call 12; first
            | (with_reducible refine HS2.out.mono ?_; rintro e wS ⟨rfl, bS, g0, g1, g2, g3, g4, g5, g6, g7⟩)
            | (with_reducible refine (HS3.out _ bS.out).mono ?_; rintro e wT ⟨rfl, bT⟩))
          | (go_at_call 13; refine (HA.out _ (Rg.chain hbA.out (Rg.chain bS.out bT.out))).mono ?_; rintro e wU ⟨rfl, bU⟩))
        go_ret
        exact ⟨rfl, bU⟩
end Go.Proofs.Ytnglfefgcdbgmaa
