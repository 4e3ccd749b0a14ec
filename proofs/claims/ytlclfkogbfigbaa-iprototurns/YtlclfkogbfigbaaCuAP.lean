/-
  Walks of layer 16: what Right asks, of a drive that is right: isIn, mayBe, mayWait, the pieces, the texts. Walks of layer 16: what came early is right. Walks of layer 16: the numbers and the window of a drive that is right. Walks of layer 16: the lists of a drive that is right, and Right.
-/
import Derived.Test.YtlclfkogbfigbaaCuAO
namespace Go.Proofs.Ytlclfkogbfigbaa
open Go.RowKit
set_option maxHeartbeats 1000000 in
theorem iisIn_yes (n a b : Int) (w : World) (h1 : decide (a ≤ n) = true) (h2 : decide (n ≤ b) = true) : Calls Try.prog 21 #[.int .i64 n, .int .i64 a, .int .i64 b] w fun e w' => e = .returned (.bool true) ∧ w' = w := by
  go_enter Try.func21, Try.ntmps21
  go_wp2
  go_ret
  exact ⟨rfl, rfl⟩
theorem iisIn_true {n a b : Int} (h1 : a ≤ n) (h2 : n ≤ b) (w : World) : Calls Try.prog 21 #[.int .i64 n, .int .i64 a, .int .i64 b] w fun e w' => e = .returned (.bool true) ∧ w' = w := iisIn_yes n a b w (by simpa using h1) (by simpa using h2)
set_option maxHeartbeats 1000000 in
set_option maxRecDepth 100000 in
theorem imayBe_go (z r : Int) (w : World) (HZ : Hid (∀ W, Calls Try.prog 21 #[.int .i64 z, .int .i64 1, .int .i64 4095] W fun e w' => e = .returned (.bool true) ∧ w' = W)) (HR : Hid (∀ W, Calls Try.prog 21 #[.int .i64 r, .int .i64 1, .int .i64 16] W fun e w' => e = .returned (.bool true) ∧ w' = W)) :
    Calls Try.prog 9 #[.int .i64 z, .int .i64 r] w fun e w' => e = .returned (.bool true) ∧ w' = w := by
  go_enter Try.func9, Try.ntmps9
  go_wp2_with (go_at_call 21; (first | with_reducible refine (HZ.out _).mono ?_ | with_reducible refine (HR.out _).mono ?_); rintro e w1 ⟨rfl, hw⟩; obtain rfl := hw.symm)
  go_ret
  exact ⟨rfl, rfl⟩
theorem imayBe_yes {z r : Int} (h1 : 1 ≤ z ∧ z ≤ 4095) (h2 : 1 ≤ r ∧ r ≤ 16) (w : World) : Calls Try.prog 9 #[.int .i64 z, .int .i64 r] w fun e w' => e = .returned (.bool true) ∧ w' = w := imayBe_go z r w (iisIn_true h1.1 h1.2) (iisIn_true h2.1 h2.2)
set_option maxHeartbeats 1000000 in
set_option maxRecDepth 100000 in
theorem imayWait_go (ch : Int) (D : ByteArray) (w : World) (hD : (D.toList == []) = false) (HZ : Hid (∀ W, Calls Try.prog 21 #[.int .i64 ch, .int .i64 0, .int .i64 7] W fun e w' => e = .returned (.bool true) ∧ w' = W)) :
    Calls Try.prog 18 #[.agg #[.int .i64 ch, .string D]] w fun e w' => e = .returned (.bool true) ∧ Below w.heap.size w w' := by
  have b0 := Rg.hid (Rg.al1 w (.cells #[.int .i64 ch, .string D] 42))
  go_enter Try.func18, Try.ntmps18
  go_wp2_with (go_at_call 21; refine (HZ.out _).mono ?_; rintro e w1 ⟨rfl, hw⟩; obtain rfl := hw.symm)
  go_ret
  exact ⟨rfl, b0.out⟩
theorem ne_nil {D : ByteArray} (h : D.size ≠ 0) : (D.toList == []) = false := by
  rw [beq_eq_false_iff_ne]
  intro e
  apply h
  have := congrArg List.length e
  rw [ByteArray.toList_eq] at this
  simpa using this
theorem imayWait_yes {x : Gp.Pc} (h : Ip.okPc x) (w : World) : Calls Try.prog 18 #[.agg #[.int .i64 x.ch, .string x.data]] w fun e w' => e = .returned (.bool true) ∧ Below w.heap.size w w' :=
  imayWait_go x.ch x.data w (ne_nil h.1) (iisIn_true h.2.1 h.2.2)
set_option maxHeartbeats 1000000 in
set_option maxRecDepth 100000 in
theorem iwrongPiece_go (x : Gp.Pc) (w : World) (HW : Hid (∀ W, Calls Try.prog 18 #[.agg #[.int .i64 x.ch, .string x.data]] W fun e w' => e = .returned (.bool true) ∧ Below W.heap.size W w')) :
    Calls Try.prog 51 #[.agg #[.int .i64 x.ch, .string x.data]] w fun e w' => e = .returned (.bool false) ∧ Below w.heap.size w w' := by
  have b0 := Rg.hid (Rg.al1 w (.cells #[.int .i64 x.ch, .string x.data] 42))
  go_enter Try.func51, Try.ntmps51
  go_wp2_with (go_at_call 18; refine (HW.out _).mono ?_; rintro e w1 ⟨rfl, b1⟩)
  go_ret
  exact ⟨rfl, Rg.chain b0.out b1⟩
set_option maxHeartbeats 1000000 in
set_option maxRecDepth 100000 in
theorem iwrongText_go (T : ByteArray) (B : Nat) (z z1 : Int) (w : World) (hT : 0 < T.size) (c4 : w.cell? ⟨B, 4, none⟩ = some (.int .i64 z)) (hz1 : wrap64 (1 + z) = z1) (h7 : ¬ (7 : Int) < ((T[0]'hT).toNat : Int)) (HZ : Hid (∀ W, Calls Try.prog 21 #[.int .i64 (T.size : Int), .int .i64 2, .int .i64 z1] W fun e w' => e = .returned (.bool true) ∧ w' = W)) :
    Calls Try.prog 52 #[.string T, .pointer (some ⟨B, 0, none⟩)] w fun e w' => e = .returned (.bool false) ∧ Below w.heap.size w w' := by
  have i1 : (0 : Int) < (T.size : Int) := by omega
  go_enter Try.func52, Try.ntmps52
  go_wp2_with (go_at_call 21; refine (HZ.out _).mono ?_; rintro e w1 ⟨rfl, hw⟩; obtain rfl := hw.symm)
  go_ret
  refine ⟨?_, Below.refl _ _⟩
  show Ending.returned (.bool (decide ((7 : Int) < ((T[0]'hT).toNat : Int)))) = _
  rw [decide_eq_false (by omega)]
theorem eg_pcs : ∀ args w, (callFunc 51 args).run Try.prog w = .ok (.enter 51 args) w := enters_of Try.func51 (by kernel_rfl) rfl
set_option maxHeartbeats 1000000 in
set_option maxRecDepth 100000 in
theorem ix_pcs (l : List Gp.Pc) (n : Nat) (hn : Hid (n = l.length)) (hn1 : n ≤ 100000) (a : Option Addr) (c : Nat) (w : World) (hr : Hid (ERow pcE w a l)) (HE : Hid (∀ x ∈ l, ∀ W, Below w.heap.size w W → Calls Try.prog 51 #[.agg #[.int .i64 x.ch, .string x.data]] W fun e w' => e = .returned (.bool false) ∧ Below W.heap.size W w')) :
    Calls Try.prog 72 #[.slice a n c, .func (.func 51) #[] #[]] w fun e w' => e = .returned (.int .i64 (-1)) ∧ Below w.heap.size w w' := by
  have eg := eg_pcs
  go_enter Try.func72, Try.ntmps72
  go_wp2
  go_loopw [8] (fun vi wr => ∃ i : Nat, i ≤ n ∧ vi = .int .i64 i ∧ Below w.heap.size w wr) (fun vi _ => n - (intOf vi).toNat)
  case atStart => exact ⟨0, Nat.zero_le _, rfl, Below.refl _ _⟩
  case round =>
    obtain ⟨i, hin, rfl, hbw⟩ := hrel
    by_cases hlt : i < n
    · have hil : i < l.length := by rw [← hn.out]; exact hlt
      obtain ⟨b1, o1, rfl, _, _, y1⟩ := (hr.out.below hbw).cell hil
      have HX := Rg.hid (HE.out _ (List.getElem_mem hil) wr hbw)
      replace y1 := pc_at y1
      generalize l[i] = x at y1 HX
      obtain ⟨c0, c1⟩ := y1
      have em : pcE.m = 2 := rfl
      rw [em] at c0 c1
      clear em
      have iz0 : (0 : Int) ≤ (i : Int) := by omega
      have iz1 : (i : Int) < (n : Int) := by omega
      clear hr hil HE
      go_wp2_with (go_at_fn 51; refine HX.out.mono ?_; rintro e w2 ⟨rfl, b2⟩)
      go_roundw
      case rel => exact ⟨i + 1, by omega, by go_num, Rg.chain hbw b2⟩
      case measure => simp [intOf]; omega
    · have hie : i = n := by omega
      subst hie
      go_wp2
      go_ret
      exact ⟨rfl, hbw⟩
set_option maxHeartbeats 1000000 in
set_option maxRecDepth 100000 in
theorem cf_pcs (a : Option Addr) (n c : Nat) (w : World) (HI : Hid (∀ W, Below w.heap.size w W → Calls Try.prog 72 #[.slice a n c, .func (.func 51) #[] #[]] W fun e w' => e = .returned (.int .i64 (-1)) ∧ Below W.heap.size W w')) :
    Calls Try.prog 53 #[.slice a n c, .func (.func 51) #[] #[]] w fun e w' => e = .returned (.bool false) ∧ Below w.heap.size w w' := by
  go_enter Try.func53, Try.ntmps53
  go_wp2_with (go_at_call 72; refine (HI.out _ (Below.refl _ _)).mono ?_; rintro e w2 ⟨rfl, b2⟩)
  go_ret
  exact ⟨rfl, b2⟩
theorem eg_txs : ∀ args w, (callFunc 52 args).run Try.prog w = .ok (.enter 52 args) w := enters_of Try.func52 (by kernel_rfl) rfl
set_option maxHeartbeats 1000000 in
set_option maxRecDepth 100000 in
theorem ix_txs (l : List ByteArray) (n : Nat) (B : Nat) (hn : Hid (n = l.length)) (hn1 : n ≤ 100000) (a : Option Addr) (c : Nat) (w : World) (hr : Hid (ERow strE w a l)) (HE : Hid (∀ x ∈ l, ∀ W, Below w.heap.size w W → Calls Try.prog 52 #[.string x, .pointer (some ⟨B, 0, none⟩)] W fun e w' => e = .returned (.bool false) ∧ Below W.heap.size W w')) :
    Calls Try.prog 73 #[.slice a n c, .func (.func 52) #[] #[.pointer (some ⟨B, 0, none⟩)]] w fun e w' => e = .returned (.int .i64 (-1)) ∧ Below w.heap.size w w' := by
  have eg := eg_txs
  go_enter Try.func73, Try.ntmps73
  go_wp2
  go_loopw [8] (fun vi wr => ∃ i : Nat, i ≤ n ∧ vi = .int .i64 i ∧ Below w.heap.size w wr) (fun vi _ => n - (intOf vi).toNat)
  case atStart => exact ⟨0, Nat.zero_le _, rfl, Below.refl _ _⟩
  case round =>
    obtain ⟨i, hin, rfl, hbw⟩ := hrel
    by_cases hlt : i < n
    · have hil : i < l.length := by rw [← hn.out]; exact hlt
      obtain ⟨b1, o1, rfl, _, _, y1⟩ := (hr.out.below hbw).cell hil
      have HX := Rg.hid (HE.out _ (List.getElem_mem hil) wr hbw)
      have c0 : wr.cell? ⟨b1, o1 + i, none⟩ = some (.string l[i]) := by
        have := y1 0 _ rfl
        have em : strE.m = 1 := rfl
        rw [em, Nat.mul_one] at this
        exact this
      generalize l[i] = x at c0 HX
      clear y1
      have iz0 : (0 : Int) ≤ (i : Int) := by omega
      have iz1 : (i : Int) < (n : Int) := by omega
      clear hr hil HE
      go_wp2_with (go_at_fn 52; refine HX.out.mono ?_; rintro e w2 ⟨rfl, b2⟩)
      go_roundw
      case rel => exact ⟨i + 1, by omega, by go_num, Rg.chain hbw b2⟩
      case measure => simp [intOf]; omega
    · have hie : i = n := by omega
      subst hie
      go_wp2
      go_ret
      exact ⟨rfl, hbw⟩
set_option maxHeartbeats 1000000 in
set_option maxRecDepth 100000 in
theorem cf_txs (a : Option Addr) (n c : Nat) (B : Nat) (w : World) (HI : Hid (∀ W, Below w.heap.size w W → Calls Try.prog 73 #[.slice a n c, .func (.func 52) #[] #[.pointer (some ⟨B, 0, none⟩)]] W fun e w' => e = .returned (.int .i64 (-1)) ∧ Below W.heap.size W w')) :
    Calls Try.prog 54 #[.slice a n c, .func (.func 52) #[] #[.pointer (some ⟨B, 0, none⟩)]] w fun e w' => e = .returned (.bool false) ∧ Below w.heap.size w w' := by
  go_enter Try.func54, Try.ntmps54
  go_wp2_with (go_at_call 73; refine (HI.out _ (Below.refl _ _)).mono ?_; rintro e w2 ⟨rfl, b2⟩)
  go_ret
  exact ⟨rfl, b2⟩
end Go.Proofs.Ytlclfkogbfigbaa

namespace Go.Proofs.Ytlclfkogbfigbaa
open Go.RowKit
set_option maxHeartbeats 1000000 in
set_option maxRecDepth 100000 in
theorem iearly_go (x kd nm ak ch k : Int) (ca : Bool) (D : ByteArray) (w : World) (HA : Hid (∀ W, Calls Try.prog 86 #[.int .i64 x, .int .i64 nm, .int .i64 32] W fun e w' => e = .returned (.int .i64 k) ∧ w' = W)) :
    Calls Try.prog 74 #[.int .i64 x, .agg #[.int .i64 kd, .int .i64 nm, .int .i64 ak, .int .i64 ch, .bool ca, .string D]] w fun e w' => e = .returned (.int .i64 k) ∧ Below w.heap.size w w' := by
  have b0 := Rg.hid (Rg.al1 w (.cells #[.int .i64 kd, .int .i64 nm, .int .i64 ak, .int .i64 ch, .bool ca, .string D] 63))
  go_enter Try.func74, Try.ntmps74
  go_wp2_with (go_at_call 86; refine (HA.out _).mono ?_; rintro e w1 ⟨rfl, hw⟩; obtain rfl := hw.symm)
  go_ret
  exact ⟨rfl, b0.out⟩
theorem iearly_any (x kd nm ak ch : Int) (ca : Bool) (D : ByteArray) (w : World) :
    Calls Try.prog 74 #[.int .i64 x, .agg #[.int .i64 kd, .int .i64 nm, .int .i64 ak, .int .i64 ch, .bool ca, .string D]] w fun e w' => e = .returned (.int .i64 (Ip.early x nm)) ∧ Below w.heap.size w w' :=
  iearly_go x kd nm ak ch _ ca D w (fun W => ahead_any x nm 32 W)
theorem early_step {L E L1 : Int} (h : L1 = L + 1) (h0 : 0 ≤ L) (h1 : L < E) (h2 : E ≤ 15) : wrap64 (L + 1) = L1 ∧ L1 ≤ E ∧ 0 ≤ E := by subst h; unfold wrap64; omega
set_option maxHeartbeats 2000000 in
set_option maxRecDepth 100000 in
theorem ihasRightAhead_yes (d : Gp.Dr) (p : Pl) (w : World) (hah : Hid (Ip.okAhead d.wants 0 d.ahead)) (hr : Hid (ERow fiE w p.a d.ahead)) :
    Calls Try.prog 55 #[DV d p] w fun e w' => e = .returned (.bool true) ∧ Below w.heap.size w w' := by
  have kB : Hid (Rg.Bk w.heap.size (DC d p) 32 (w.alloc (.cells (DC d p).toArray 32))) := Rg.Bk.new rfl
  have b0 := Rg.hid (Rg.al1 w (.cells (DC d p).toArray 32))
  unfold DC at kB b0
  unfold DV
  go_enter Try.func55, Try.ntmps55
  go_upto_region 2 with fail
  generalize World.alloc _ _ = w1 at *
  obtain ⟨B, hB⟩ : ∃ B, B = w.heap.size := ⟨_, rfl⟩
  rw [← hB] at kB ⊢
  replace hB := Rg.hid hB
  obtain ⟨n, hn⟩ : ∃ n, n = d.ahead.length := ⟨_, rfl⟩
  have c11 : w1.cell? ⟨B, 11, none⟩ = some (.slice p.a n p.ac) := by rw [hn]; exact kB.out.cell 11
  have c10 : Hid (∀ W, Below w1.heap.size w1 W → W.cell? ⟨B, 10, none⟩ = some (.int .i64 d.wants)) := fun W hW => (kB.out.below hW kB.out.lt).cell 10
  have hr1 := Rg.hid (hr.out.below b0.out)
  have hnl : Hid (n ≤ 15) := by show _ ≤ _; have := Ip.ok_len (by omega) hah.out; omega
  replace hn := Rg.hid hn
  generalize d.wants = wa at *
  generalize d.ahead = l at *
  generalize p.a = pa at *
  clear kB hr
  go_wp2
  go_loopw [10, 3] (fun vi vL wr => ∃ (i : Nat) (L : Int), i ≤ n ∧ vi = .int .i64 i ∧ vL = .int .i64 L ∧ Hid (0 ≤ L ∧ Ip.okAhead wa L (l.drop i)) ∧ Hid (Below w1.heap.size w1 wr)) (fun vi _ _ => n - (intOf vi).toNat)
  case atStart => exact ⟨0, 0, Nat.zero_le _, rfl, rfl, ⟨Int.le_refl _, hah.out⟩, Below.refl _ _⟩
  case round =>
    obtain ⟨i, L, hi, rfl, rfl, hL, hb⟩ := hrel
    by_cases hlt : i < n
    · have hil : i < l.length := by rw [← hn.out]; exact hlt
      obtain ⟨b1, o1, rfl, _, _, y1⟩ := (hr1.out.below hb.out).cell hil
      replace y1 := fi_at y1
      have hok := hL.out.2
      rw [List.drop_eq_getElem_cons hil] at hok
      generalize l[i] = f at y1 hok
      obtain ⟨kd, nm, ak, ch, ca, D⟩ := f
      obtain ⟨g0, g1, g2, g3, g4, g5⟩ := y1
      have em : fiE.m = 6 := rfl
      rw [em] at g0 g1 g2 g3 g4 g5
      dsimp only at g0 g1 g2 g3 g4 g5
      obtain ⟨k1, k2, k3, k4⟩ := hok
      obtain ⟨L1, hL1⟩ : ∃ L1, L1 = L + 1 := ⟨_, rfl⟩
      dsimp only at k1 k2 k3 k4
      obtain ⟨E, hE⟩ : ∃ E, E = Ip.early wa nm := ⟨_, rfl⟩
      have HE := Rg.hid (fun W => iearly_any wa kd nm ak ch ca D W)
      rw [← hE] at k2 k3 k4 HE
      obtain ⟨s1, s2, s3⟩ := early_step hL1 hL.out.1 k2 k3
      have HI := Rg.hid (fun W => iisIn_true (n := E) (a := L1) (b := 15) s2 k3 W)
      have hD := ne_nil k1
      have hk : Hid (0 ≤ E ∧ Ip.okAhead wa E (l.drop (i + 1))) := ⟨s3, k4⟩
      have d10 := c10.out _ (Rg.chain hb.out (Rg.al1 wr (.cells #[.int .i64 kd, .int .i64 nm, .int .i64 ak, .int .i64 ch, .bool ca, .string D] 63)))
      have bx := Rg.hid (Rg.chain hb.out (Rg.al1 wr (.cells #[.int .i64 kd, .int .i64 nm, .int .i64 ak, .int .i64 ch, .bool ca, .string D] 63)))
      have kx : Hid (Rg.Bk wr.heap.size [.int .i64 kd, .int .i64 nm, .int .i64 ak, .int .i64 ch, .bool ca, .string D] 63 (wr.alloc (.cells #[.int .i64 kd, .int .i64 nm, .int .i64 ak, .int .i64 ch, .bool ca, .string D] 63))) := Rg.Bk.new rfl
      have iz0 : (0 : Int) ≤ (i : Int) := by omega
      have iz1 : (i : Int) < (n : Int) := by omega
      obtain ⟨m, hm⟩ : ∃ m, m = i + 1 := ⟨_, rfl⟩
      have hw1 : Hid (wrap64 ((i : Int) + 1) = (m : Int)) := by show _ = _; rw [hm]; have := hnl.out; unfold wrap64; omega
      rw [← hm] at hk
      replace hm := Rg.hid hm
      replace hE := Rg.hid hE
      replace hL1 := Rg.hid hL1
      clear em hil hL k1 k2 k3 k4 s2 s3
      go_upto_region 5 with fail
      generalize World.alloc _ _ = wx at *
      obtain ⟨BX, hBX⟩ : ∃ BX, BX = wr.heap.size := ⟨_, rfl⟩
      rw [← hBX] at kx ⊢
      replace hBX := Rg.hid hBX
      have x0 : wx.cell? ⟨BX, 0, none⟩ = some (.int .i64 kd) := kx.out.cell 0
      have x1 : wx.cell? ⟨BX, 1, none⟩ = some (.int .i64 nm) := kx.out.cell 1
      have x2 : wx.cell? ⟨BX, 2, none⟩ = some (.int .i64 ak) := kx.out.cell 2
      have x3 : wx.cell? ⟨BX, 3, none⟩ = some (.int .i64 ch) := kx.out.cell 3
      have x4 : wx.cell? ⟨BX, 4, none⟩ = some (.bool ca) := kx.out.cell 4
      have x5 : wx.cell? ⟨BX, 5, none⟩ = some (.string D) := kx.out.cell 5
      clear g0 g1 g2 g3 g4 g5 hb
      go_upto_region 6 with (go_at_call 74; refine (HE.out _).mono ?_; rintro e w2 ⟨rfl, b2⟩)
      have y5 : w2.cell? ⟨BX, 5, none⟩ = some (.string D) := (kx.out.below b2 kx.out.lt).cell 5
      have b3 := Rg.hid (Rg.chain bx.out b2)
      clear x0 x1 x2 x3 x4 x5 kx d10
      go_wp2_with (go_at_call 21; refine (HI.out _).mono ?_; rintro e w3 ⟨rfl, hw⟩; obtain rfl := hw.symm)
      go_roundw
      case rel => exact ⟨m, E, by rw [hm.out]; exact hlt, by rw [hw1.out], rfl, hk, b3⟩
      case measure => rw [hw1.out, hm.out]; simp [intOf]; clear hw1; omega
    · have hie : i = n := by omega
      subst hie
      go_wp2
      go_ret
      exact ⟨rfl, Rg.chain b0.out hb.out⟩
end Go.Proofs.Ytlclfkogbfigbaa

namespace Go.Proofs.Ytlclfkogbfigbaa
open Go.RowKit
set_option maxHeartbeats 2000000 in
set_option maxRecDepth 100000 in
theorem ihasRightNumbers_yes (d : Gp.Dr) (p : Pl) (w : World) (h1 : 0 ≤ d.wants) (h2 : d.wants ≤ 31) (h3 : 0 ≤ d.at_) (h4 : d.at_ ≤ 1099511627776) (h5 : 0 ≤ d.wait) (h6 : d.wait ≤ 3) (h7 : 0 ≤ d.tries) (h8 : d.tries ≤ 13) :
    Calls Try.prog 37 #[DV d p] w fun e w' => e = .returned (.bool true) ∧ Below w.heap.size w w' := by
  have H1 : Hid (∀ W, Calls Try.prog 21 #[.int .i64 d.wants, .int .i64 0, .int .i64 31] W fun e w' => e = .returned (.bool true) ∧ w' = W) := iisIn_true h1 h2
  have H2 : Hid (∀ W, Calls Try.prog 21 #[.int .i64 d.at_, .int .i64 0, .int .i64 1099511627776] W fun e w' => e = .returned (.bool true) ∧ w' = W) := iisIn_true h3 h4
  have H3 : Hid (∀ W, Calls Try.prog 21 #[.int .i64 d.wait, .int .i64 0, .int .i64 3] W fun e w' => e = .returned (.bool true) ∧ w' = W) := iisIn_true h5 h6
  have H4 : Hid (∀ W, Calls Try.prog 21 #[.int .i64 d.tries, .int .i64 0, .int .i64 13] W fun e w' => e = .returned (.bool true) ∧ w' = W) := iisIn_true h7 h8
  have kB : Hid (Rg.Bk w.heap.size (DC d p) 32 (w.alloc (.cells (DC d p).toArray 32))) := Rg.Bk.new rfl
  have hb := Rg.hid (Rg.al1 w (.cells (DC d p).toArray 32))
  unfold DC at kB hb
  unfold DV
  go_enter Try.func37, Try.ntmps37
  go_upto_region 1 with fail
  generalize World.alloc _ _ = w1 at *
  obtain ⟨B, hB⟩ : ∃ B, B = w.heap.size := ⟨_, rfl⟩
  rw [← hB] at kB ⊢
  replace hB := Rg.hid hB
  have z10 : w1.cell? ⟨B, 10, none⟩ = some (.int .i64 d.wants) := kB.out.cell 10
  have z13 : w1.cell? ⟨B, 13, none⟩ = some (.int .i64 d.at_) := kB.out.cell 13
  have z15 : w1.cell? ⟨B, 15, none⟩ = some (.int .i64 d.wait) := kB.out.cell 15
  have z16 : w1.cell? ⟨B, 16, none⟩ = some (.int .i64 d.tries) := kB.out.cell 16
  clear h1 h2 h3 h4 h5 h6 h7 h8 kB
  generalize d.wants = x1 at *
  generalize d.at_ = x2 at *
  generalize d.wait = x3 at *
  generalize d.tries = x4 at *
  go_wp2_with (go_at_call 21; (first | with_reducible refine (H1.out _).mono ?_ | with_reducible refine (H2.out _).mono ?_ | with_reducible refine (H3.out _).mono ?_ | with_reducible refine (H4.out _).mono ?_); rintro e w2 ⟨rfl, hw⟩; obtain rfl := hw.symm)
  go_ret
  exact ⟨rfl, hb.out⟩
set_option maxHeartbeats 4000000 in
set_option maxRecDepth 100000 in
theorem ihasRightWindow_yes (d : Gp.Dr) (p : Pl) (w : World) (r4 : d.win.md = 32) (r5 : d.win.sz = d.room) (r6 : 0 ≤ d.win.bs) (r7 : d.win.bs ≤ 31) (r8 : (d.win.l.length : Int) ≤ d.room) :
    Calls Try.prog 39 #[DV d p] w fun e w' => e = .returned (.bool true) ∧ Below w.heap.size w w' := by
  have H1 : Hid (∀ W, Calls Try.prog 21 #[.int .i64 d.win.bs, .int .i64 0, .int .i64 31] W fun e w' => e = .returned (.bool true) ∧ w' = W) := iisIn_true r6 r7
  have kB : Hid (Rg.Bk w.heap.size (DC d p) 32 ((w.alloc (.cells (DC d p).toArray 32)).alloc (.cells #[.int .i64 d.win.md, .int .i64 d.win.sz, .int .i64 d.win.bs, .slice p.w d.win.l.length p.wc] 27))) := (Rg.Bk.new rfl).old _
  have kV : Hid (Rg.Bk (w.heap.size + 1) [.int .i64 d.win.md, .int .i64 d.win.sz, .int .i64 d.win.bs, .slice p.w d.win.l.length p.wc] 27 ((w.alloc (.cells (DC d p).toArray 32)).alloc (.cells #[.int .i64 d.win.md, .int .i64 d.win.sz, .int .i64 d.win.bs, .slice p.w d.win.l.length p.wc] 27))) := Rg.Bk.new (by simp)
  have hb := Rg.hid (Rg.al2 w (.cells (DC d p).toArray 32) (.cells #[.int .i64 d.win.md, .int .i64 d.win.sz, .int .i64 d.win.bs, .slice p.w d.win.l.length p.wc] 27))
  unfold DC at kB kV hb
  unfold DV
  rw [r4, r5] at kB kV hb
  rw [r4, r5]
  have el : decide ((d.win.l.length : Int) ≤ d.room) = true := by simpa using r8
  clear r4 r5 r6 r7 r8
  go_enter Try.func39, Try.ntmps39
  go_upto_region 2 with fail
  generalize World.alloc _ _ = w1 at *
  obtain ⟨B, hB⟩ : ∃ B, B = w.heap.size := ⟨_, rfl⟩
  obtain ⟨V, hV⟩ : ∃ V, V = w.heap.size + 1 := ⟨_, rfl⟩
  rw [← hV] at kV ⊢
  rw [← hB] at kB ⊢
  replace hB := Rg.hid hB
  replace hV := Rg.hid hV
  obtain ⟨n, hn⟩ : ∃ n, d.win.l.length = n := ⟨_, rfl⟩
  have y0 : w1.cell? ⟨V, 0, none⟩ = some (.int .i64 32) := kV.out.cell 0
  have y1 : w1.cell? ⟨V, 1, none⟩ = some (.int .i64 d.room) := kV.out.cell 1
  have y2 : w1.cell? ⟨V, 2, none⟩ = some (.int .i64 d.win.bs) := kV.out.cell 2
  have y3 : w1.cell? ⟨V, 3, none⟩ = some (.slice p.w n p.wc) := by rw [← hn]; exact kV.out.cell 3
  have z5 : w1.cell? ⟨B, 5, none⟩ = some (.int .i64 d.room) := kB.out.cell 5
  rw [hn] at el
  replace hn := Rg.hid hn
  clear kV kB
  generalize d.win.bs = wb at *
  generalize d.room = rm at *
  go_wp2_with (go_at_call 21; refine (H1.out _).mono ?_; rintro e w2 ⟨rfl, hw⟩; obtain rfl := hw.symm)
  go_ret
  exact ⟨rfl, hb.out⟩
end Go.Proofs.Ytlclfkogbfigbaa

namespace Go.Proofs.Ytlclfkogbfigbaa
open Go.RowKit
theorem iinfoDr2 : (Try.prog.info? 32).map (·.size) = some 18 := by kernel_rfl
set_option maxHeartbeats 4000000 in
set_option maxRecDepth 100000 in
theorem ihasRightLists_go (d : Gp.Dr) (p : Pl) (w : World)
    (HQ : Hid (∀ W, Below w.heap.size w W → Calls Try.prog 53 #[.slice p.q d.queue.length p.qc, .func (.func 51) #[] #[]] W fun e w' => e = .returned (.bool false) ∧ Below W.heap.size W w'))
    (HT : Hid (∀ W B, Below w.heap.size w W → (∀ W', Below W.heap.size W W' → W'.cell? ⟨B, 4, none⟩ = some (.int .i64 d.size)) → Calls Try.prog 54 #[.slice p.w d.win.l.length p.wc, .func (.func 52) #[] #[.pointer (some ⟨B, 0, none⟩)]] W fun e w' => e = .returned (.bool false) ∧ Below W.heap.size W w'))
    (HA : Hid (∀ W, Below w.heap.size w W → Calls Try.prog 55 #[DV d p] W fun e w' => e = .returned (.bool true) ∧ Below W.heap.size W w')) :
    Calls Try.prog 38 #[DV d p] w fun e w' => e = .returned (.bool true) ∧ Below w.heap.size w w' := by
  obtain ⟨CS, hCS⟩ : ∃ CS : Array Value, CS = (DC d p).toArray := ⟨_, rfl⟩
  have hin : (Try.prog.info? 32).map (·.size) = some CS.size := by rw [hCS]; exact iinfoDr2
  have eDV : DV d p = .agg CS := by rw [hCS]; rfl
  rw [eDV] at HA ⊢
  have kB : Hid (Rg.Bk w.heap.size CS.toList 32 (w.alloc (.cells CS 32))) := Rg.Bk.new rfl
  have hb := Rg.hid (Rg.al1 w (.cells CS 32))
  replace hCS := Rg.hid hCS
  clear eDV
  go_enter Try.func38, Try.ntmps38
  go_upto_region 1 with fail
  generalize World.alloc _ _ = w1 at *
  obtain ⟨B, hB⟩ : ∃ B, B = w.heap.size := ⟨_, rfl⟩
  rw [← hB] at kB ⊢
  replace hB := Rg.hid hB
  have hld : Hid (∀ W, Below w1.heap.size w1 W → (loadVar 32 ⟨B, 0, none⟩).run Try.prog W = .ok (.agg CS) W) := fun W hW => Rg.row_loadVar (P := Try.prog) (t := 32) (CS := CS) (kB.out.below hW kB.out.lt) Try.underlying32 rfl hin
  have hz : Hid (∀ W, Below w1.heap.size w1 W → Rg.Bk B [.int .i64 d.letter, .int .i64 d.phase, .bool d.caller, .int .i64 d.step, .int .i64 d.size, .int .i64 d.room, .int .i64 d.win.md, .int .i64 d.win.sz, .int .i64 d.win.bs, .slice p.w d.win.l.length p.wc, .int .i64 d.wants, .slice p.a d.ahead.length p.ac, .string ⟨d.buf.toArray⟩, .int .i64 d.at_, .slice p.q d.queue.length p.qc, .int .i64 d.wait, .int .i64 d.tries, .slice p.t d.took.length p.tc] 32 W) := fun W hW => by
    have := kB.out.below hW kB.out.lt
    rw [hCS.out] at this
    exact this
  clear hin kB hCS
  have z14 : w1.cell? ⟨B, 14, none⟩ = some (.slice p.q d.queue.length p.qc) := (hz.out w1 (Below.refl _ _)).cell 14
  go_wp2_with (first | (go_at_call 53; refine (HQ.out _ hb.out).mono ?_; rintro e w2 ⟨rfl, b2⟩; clear z14 HQ; have z9 : w2.cell? ⟨B, 9, none⟩ = some (.slice p.w d.win.l.length p.wc) := (hz.out w2 b2).cell 9; have HT1 := Rg.hid (HT.out w2 B (Rg.chain hb.out b2) (fun W' hW' => (hz.out W' (Rg.chain b2 hW')).cell 4)); clear HT) | (go_at_call 54; refine HT1.out.mono ?_; rintro e w3 ⟨rfl, b3⟩; clear z9 HT1; have b4 := Rg.chain b2 b3; clear b2 b3; have hl3 := Rg.hid (hld.out w3 b4); have HA1 := Rg.hid (HA.out w3 (Rg.chain hb.out b4)); clear hld HA hz) | (refine Rg.wpList_load_row rfl (.tmp 1) 32 rfl rfl hl3.out ?_) | (go_at_call 55; refine HA1.out.mono ?_; rintro e w5 ⟨rfl, b5⟩))
  go_ret
  exact ⟨rfl, Rg.chain hb.out (Rg.chain b4 b5)⟩
set_option maxHeartbeats 4000000 in
set_option maxRecDepth 100000 in
theorem iright_go (d : Gp.Dr) (p : Pl) (w : World) (hlt : d.letter = 105) (ph : Int) (hph : d.phase = ph) (hp5 : ph = 1 ∨ ph = 2 ∨ ph = 3 ∨ ph = 4 ∨ ph = 5)
    (HM : Hid (∀ W, Calls Try.prog 9 #[.int .i64 d.size, .int .i64 d.room] W fun e w' => e = .returned (.bool true) ∧ w' = W))
    (HN : Hid (∀ W, Calls Try.prog 37 #[DV d p] W fun e w' => e = .returned (.bool true) ∧ Below W.heap.size W w'))
    (HQ : Hid (∀ W, Below w.heap.size w W → Calls Try.prog 38 #[DV d p] W fun e w' => e = .returned (.bool true) ∧ Below W.heap.size W w'))
    (H1 : Hid (ph = 1 → d.win.l.length = 0 ∧ d.ahead.length = 0))
    (H2 : Hid (ph = 2 → (∀ W, Calls Try.prog 21 #[.int .i64 d.step, .int .i64 (-1), .int .i64 31] W fun e w' => e = .returned (.bool true) ∧ w' = W) ∧ (∀ W, Calls Try.prog 39 #[DV d p] W fun e w' => e = .returned (.bool true) ∧ Below W.heap.size W w'))) :
    Calls Try.prog 24 #[DV d p] w fun e w' => e = .returned (.bool true) ∧ Below w.heap.size w w' := by
  obtain ⟨CS, hCS⟩ : ∃ CS : Array Value, CS = (DC d p).toArray := ⟨_, rfl⟩
  have hin : (Try.prog.info? 32).map (·.size) = some CS.size := by rw [hCS]; exact iinfoDr2
  have eDV : DV d p = .agg CS := by rw [hCS]; rfl
  rw [eDV] at HN HQ H2 ⊢
  have kB : Hid (Rg.Bk w.heap.size CS.toList 32 (w.alloc (.cells CS 32))) := Rg.Bk.new rfl
  have hb := Rg.hid (Rg.al1 w (.cells CS 32))
  replace hCS := Rg.hid hCS
  clear eDV
  go_enter Try.func24, Try.ntmps24
  go_upto_region 1 with fail
  generalize World.alloc _ _ = w1 at *
  obtain ⟨B, hB⟩ : ∃ B, B = w.heap.size := ⟨_, rfl⟩
  rw [← hB] at kB ⊢
  replace hB := Rg.hid hB
  have hld : Hid (∀ W, Below w1.heap.size w1 W → (loadVar 32 ⟨B, 0, none⟩).run Try.prog W = .ok (.agg CS) W) := fun W hW => Rg.row_loadVar (P := Try.prog) (t := 32) (CS := CS) (kB.out.below hW kB.out.lt) Try.underlying32 rfl hin
  have hz : Hid (∀ W, Below w1.heap.size w1 W → Rg.Bk B [.int .i64 d.letter, .int .i64 d.phase, .bool d.caller, .int .i64 d.step, .int .i64 d.size, .int .i64 d.room, .int .i64 d.win.md, .int .i64 d.win.sz, .int .i64 d.win.bs, .slice p.w d.win.l.length p.wc, .int .i64 d.wants, .slice p.a d.ahead.length p.ac, .string ⟨d.buf.toArray⟩, .int .i64 d.at_, .slice p.q d.queue.length p.qc, .int .i64 d.wait, .int .i64 d.tries, .slice p.t d.took.length p.tc] 32 W) := fun W hW => by
    have := kB.out.below hW kB.out.lt
    rw [hCS.out] at this
    exact this
  clear hin kB hCS
  have z0 : w1.cell? ⟨B, 0, none⟩ = some (.int .i64 105) := by rw [← hlt]; exact (hz.out w1 (Below.refl _ _)).cell 0
  have z4 : w1.cell? ⟨B, 4, none⟩ = some (.int .i64 d.size) := (hz.out w1 (Below.refl _ _)).cell 4
  have z5 : w1.cell? ⟨B, 5, none⟩ = some (.int .i64 d.room) := (hz.out w1 (Below.refl _ _)).cell 5
  have hl1 := Rg.hid (hld.out w1 (Below.refl _ _))
  clear hlt
  go_upto_region 3 with (first | (refine Rg.wpList_load_row rfl (.tmp 1) 32 rfl rfl hl1.out ?_) | (refine Rg.wpList_load_row rfl (.tmp 1) 32 rfl rfl hl2.out ?_) | (go_at_call 9; refine (HM.out _).mono ?_; rintro e w2 ⟨rfl, hw⟩; obtain rfl := hw.symm) | (go_at_call 37; refine (HN.out _).mono ?_; rintro e w2 ⟨rfl, b2⟩; clear z0 z4 z5 hl1 HM HN; have hl2 := Rg.hid (hld.out w2 b2); have HQ1 := Rg.hid (HQ.out w2 (Rg.chain hb.out b2)); clear HQ) | (go_at_call 38; refine HQ1.out.mono ?_; rintro e w3 ⟨rfl, b3⟩))
  have b4 := Rg.chain b2 b3
  clear b2 b3 hl2 HQ1
  have b5 := Rg.hid (Rg.chain hb.out b4)
  have z1 : w3.cell? ⟨B, 1, none⟩ = some (.int .i64 ph) := by rw [← hph]; exact (hz.out w3 b4).cell 1
  have z3 : w3.cell? ⟨B, 3, none⟩ = some (.int .i64 d.step) := (hz.out w3 b4).cell 3
  have z9 : w3.cell? ⟨B, 9, none⟩ = some (.slice p.w d.win.l.length p.wc) := (hz.out w3 b4).cell 9
  have z11 : w3.cell? ⟨B, 11, none⟩ = some (.slice p.a d.ahead.length p.ac) := (hz.out w3 b4).cell 11
  have hl3 := Rg.hid (hld.out w3 b4)
  clear hld hz hb b4 hph
  generalize d.step = st at *
  rcases hp5 with rfl | rfl | rfl | rfl | rfl
  · obtain ⟨hw0, ha0⟩ := H1.out rfl
    rw [hw0] at z9
    rw [ha0] at z11
    clear H1 H2 hl3 hw0 ha0
    go_wp2
    go_ret
    exact ⟨rfl, b5.out⟩
  · obtain ⟨HI, HW⟩ := H2.out rfl
    replace HI := Rg.hid HI
    have HW1 := Rg.hid (HW w3)
    clear H1 H2 HW
    go_wp2_with (first | (refine Rg.wpList_load_row rfl (.tmp 1) 32 rfl rfl hl3.out ?_) | (go_at_call 21; refine (HI.out _).mono ?_; rintro e w2 ⟨rfl, hw⟩; obtain rfl := hw.symm) | (go_at_call 39; refine HW1.out.mono ?_; rintro e w4 ⟨rfl, b6⟩))
    go_ret
    exact ⟨rfl, Rg.chain b5.out b6⟩
  all_goals (
    clear H1 H2 hl3
    go_wp2
    go_ret
    exact ⟨rfl, b5.out⟩)
theorem okText_first {T : ByteArray} (hT : 0 < T.size) (h : (T.data.toList.headD 0).toNat ≤ 7) : ¬ (7 : Int) < ((T[0]'hT).toNat : Int) := by
  obtain ⟨⟨l⟩⟩ := T
  cases l with
  | nil => exact absurd hT (by decide)
  | cons a r => have : a.toNat ≤ 7 := h; show ¬ (7 : Int) < (a.toNat : Int); omega
theorem iright_yes (d : Gp.Dr) (p : Pl) (w : World) (hr : Ip.right d) (hw : ERow strE w p.w d.win.l) (hq : ERow pcE w p.q d.queue) (ha : ERow fiE w p.a d.ahead) (hwl : d.win.l.length ≤ 100000) (hql : d.queue.length ≤ 100000) :
    Calls Try.prog 24 #[DV d p] w fun e w' => e = .returned (.bool true) ∧ Below w.heap.size w w' := by
  have hp := hr.2
  have b := hr.1
  refine iright_go d p w b.lt d.phase rfl (by rcases hp with h | h | h | h | h <;> omega) (imayBe_yes b.sz b.rm) (fun W => ihasRightNumbers_yes d p W b.wn.1 b.wn.2 b.at_.1 b.at_.2 b.wt.1 b.wt.2 b.tr.1 b.tr.2) (fun W hW => ?_) (fun h1 => ?_) (fun h2 => ?_)
  · refine ihasRightLists_go d p W (fun W1 h1 => ?_) (fun W1 B h1 hc => ?_) (fun W1 h1 => ihasRightAhead_yes d p W1 b.ah (ha.below (Rg.chain hW h1)))
    · exact cf_pcs p.q _ p.qc W1 fun W2 h2 => ix_pcs d.queue _ rfl hql p.q p.qc W2 (((hq.below hW).below h1).below h2) fun x hx W3 _ => iwrongPiece_go x W3 (fun W4 => imayWait_yes (b.qu x hx) W4)
    · refine cf_txs p.w _ p.wc B W1 fun W2 h2 => ix_txs d.win.l _ B rfl hwl p.w p.wc W2 (((hw.below hW).below h1).below h2) fun x hx W3 h3 => ?_
      have o := b.wi x hx
      have hz := b.sz
      have hT : 0 < x.size := by have := o.1; omega
      exact iwrongText_go x B d.size (d.size + 1) W3 hT (hc W3 (Rg.chain h2 h3)) (by unfold wrap64; omega) (okText_first hT o.2.2) (iisIn_true (by have := o.1; omega) o.2.1)
  · rcases hp with ⟨_, e1, e2⟩ | ⟨h, _⟩ | h | h | h
    · exact ⟨by rw [e1]; rfl, by rw [e2]; rfl⟩
    all_goals omega
  · rcases hp with ⟨h, _⟩ | ⟨_, r⟩ | h | h | h
    · omega
    · have hb := r.bs
      have hs := r.ws
      have hl := r.ln
      exact ⟨iisIn_true r.st.1 r.st.2, fun W => ihasRightWindow_yes d p W r.md r.ws hb.1 (by omega) (by omega)⟩
    all_goals omega
end Go.Proofs.Ytlclfkogbfigbaa
