/-
  Layer 15: GprotoGivesUp's walk.
-/
import Derived.Test.YtfiffbohhhehkaaGreatBsPh8
import Derived.Test.YtfiffbohhhehkaaGreatBsPh1
namespace Go.Proofs.YtfiffbohhhehkaaGreat
open Go.RowKit
/-- what stands while two ends give up -/
structure GuI (Kp : Nat → Prop) (B9 B11 BP : Nat) (w w6 wr : World) (da dc : Gp.Dr) (p : Gp.Pr) (N M : Nat) : Prop where
  ha : ∃ C, Rg.Bk B9 (Array.toList C) 29 wr ∧ DH Kp wr da C
  hc : ∃ C, Rg.Bk B11 (Array.toList C) 29 wr ∧ DH Kp wr dc C
  ps : PS Kp BP wr [] [] p N M
  bw : Below w.heap.size w wr
  sz : w6.heap.size ≤ wr.heap.size
/-- the same, once nobody looks at their lists any more -/
structure GuJ (Kp : Nat → Prop) (B9 B11 BP : Nat) (w w6 wr : World) (C9 C11 : Array Value) (p : Gp.Pr) (N M : Nat) : Prop where
  ha : Rg.Bk B9 (Array.toList C9) 29 wr
  hc : Rg.Bk B11 (Array.toList C11) 29 wr
  ps : PS Kp BP wr [] [] p N M
  bw : Below w.heap.size w wr
  sz : w6.heap.size ≤ wr.heap.size
theorem GuJ.step {Kp : Nat → Prop} {B9 B11 BP N M N2 M2 : Nat} {w w6 wr w' : World} {C9 C11 : Array Value} {p p2 : Gp.Pr} (h : GuJ Kp B9 B11 BP w w6 wr C9 C11 p N M) (h9 : B9 ≠ BP) (h11 : B11 ≠ BP) (hP : w.heap.size ≤ BP) (hs : PS Kp BP w' [] [] p2 N2 M2) (o : Oth BP wr w') : GuJ Kp B9 B11 BP w w6 w' C9 C11 p2 N2 M2 :=
  ⟨o.bk h.ha h9, o.bk h.hc h11, hs, h.bw.trans (o.bel hP h.bw.size), Nat.le_trans h.sz o.size⟩
/-- the last ticks -/
structure GuK (Kq : Nat → Prop) (B9 B11 B14 : Nat) (w w8 wr : World) (C9 C11 : Array Value) (d : Gp.Dr) : Prop where
  ha : Rg.Bk B9 (Array.toList C9) 29 wr
  hc : Rg.Bk B11 (Array.toList C11) 29 wr
  hb : ∃ C, Rg.Bk B14 (Array.toList C) 29 wr ∧ DH Kq wr d C
  bw : Below w.heap.size w wr
  sz : w8.heap.size ≤ wr.heap.size
theorem ph_at {Kp : Nat → Prop} {W W2 : World} {d : Gp.Dr} {CS : Array Value} {B : Nat} (h : DH Kp W d CS) (k : Rg.Bk B CS.toList 29 W2) : W2.cell? ⟨B, 1, none⟩ = some (.int .i64 d.phase) := by
  obtain ⟨p, rfl, _⟩ := h
  exact k.cell 1
theorem suc_v {i m : Nat} (h : m = i + 1) : Value.int .i64 ((i : Int) + 1) = .int .i64 (m : Int) := by subst h; simp
theorem suc_meas2 {i m n : Nat} (_h : m = i + 1) (hi : i < n) : n - (intOf (.int .i64 ((i : Int) + 1))).toNat < n - (intOf (.int .i64 (i : Int))).toNat := by simp [intOf]; omega
set_option maxHeartbeats 8000000 in
set_option maxRecDepth 100000 in
theorem givesup_core (x y : Int) (s : ByteArray) (U K : Nat) (w : World) (lt : Int) (u0 : IntKind.u64.wrap x = (U : Int)) (u1 : (U : Int).tmod 2 = (K : Int)) (k0 : (0 : Int) ≤ (K : Int)) (k1 : (K : Int) < 2) (cl : (w.alloc (.cells #[.int .i64 103, .int .i64 71] 3)).cell? ⟨w.heap.size, K, none⟩ = some (.int .i64 lt)) (hlt : Hid (lt = 103 ∨ lt = 71))
    (hn2 : ¬ (2000 : Int) < (s.size : Int)) :
    Calls Tryz.prog 5 #[.int .i64 x, .int .i64 y, .string s] w fun e w' => e = .returned (.bool true) ∧ Below w.heap.size w w' := by
  have HG := Rg.hid (begun_any lt y x (w.alloc (.cells #[.int .i64 103, .int .i64 71] 3)) hlt.out)
  have b0 := Rg.hid (Rg.al1 w (.cells #[.int .i64 103, .int .i64 71] 3))
  go_enter Tryz.func5, Tryz.ntmps5
  go_upto_region 4 with (first | (go_at_call 23; refine HG.out.mono ?_; rintro e w1 ⟨CA, CB, za, zb, ra, rb, rfl, hD1, b1, hok⟩; obtain ⟨w2, st2, b2, hP2⟩ := pair_box (w0 := Gp.ctrl 7 rb) (w1 := Gp.ctrl 7 ra) (fun Kp => (hD1.out Kp).1) (fun Kp => (hD1.out Kp).2)) | (with_reducible refine is_store (.tmp 7) (.tmp 29) 52 ?_; refine list_store (.tmp 7) (.tmp 29) 52 rfl rfl st2.out ?_))
  obtain ⟨BP, hBP⟩ : ∃ B, B = w1.heap.size := ⟨_, rfl⟩
  rw [← hBP] at hP2 ⊢
  obtain ⟨z1, z2, z3, z4, z5, z6, z7, z8⟩ := hok.out
  have hPB := Rg.hid (hP2.out (fun b => b ≠ BP) (fun h => h rfl))
  have hldP := Rg.hid hPB.out.loadA
  have b02 := Rg.hid (Rg.chain (Rg.chain b0.out b1.out) b2.out)
  have hPw : Hid (w.heap.size ≤ BP) := by show _ ≤ _; rw [hBP]; exact Nat.le_trans b0.out.size b1.out.size
  have hPlt := Rg.hid ((hP2.out (fun b => b ≠ BP) (fun h => h rfl)).bk.lt)
  have hA2 : Hid (∀ Kp : Nat → Prop, DH Kp w2 (Gp.begin_ lt true za ra) CA) := fun Kp => (hD1.out Kp).1.below b2.out
  obtain ⟨a0, ha0⟩ : ∃ a0, a0 = Gp.begin_ lt true za ra := ⟨_, rfl⟩
  have okA : Gp.Ok 0 a0 := by rw [ha0]; exact Gp.Ok.begin_ true hlt.out z1 z3 z5 z6
  have okB : Gp.Ok 0 (Gp.begin_ lt false zb rb) := Gp.Ok.begin_ false hlt.out z2 z4 z7 z8
  have hop : Hid (Gp.Op1 a0 lt 0 za ra []) := by rw [ha0]; exact Gp.begin_op lt true za ra
  obtain ⟨p0, hp0⟩ : ∃ p0 : Gp.Pr, p0 = ⟨a0, Gp.begin_ lt false zb rb, Gp.ctrl 7 rb, Gp.ctrl 7 ra, [], []⟩ := ⟨_, rfl⟩
  have hsm : Hid (∀ n, Gp.Hs (Gp.rnds n p0)) := by rw [hp0]; exact Gp.hs_all hop.out (Gp.begin_op lt false zb rb) z1 z2 z5 z6 z7 z8 (.inl rfl) (Nat.zero_le _)
  have hend : Hid (Gp.Ok 100000 (Gp.rnds 5 p0).b → (Gp.ticks 40 (Gp.rnds 5 p0).b).phase = 2) := by
    intro _
    have := Gp.all_comes hop.out (Gp.begin_op lt false zb rb) z1 z2 z5 z6 z7 z8 (.inl rfl) (fun x hx => by cases hx) 2 (Nat.zero_le _)
    obtain ⟨bs, hS, _⟩ := this
    rw [hp0]
    exact Gp.ticks_idle 40 hS.rb.ph (by rw [hS.rb.wi])
  have hfor := Rg.hid (Gp.forty lt true za ra ⟨0, s⟩)
  rw [← ha0] at hfor hA2
  have hps : Hid (∀ Kp : Nat → Prop, ¬ Kp BP → PS Kp BP w2 [] [] p0 0 0) := fun Kp hn => by
    have := hP2.out Kp hn
    rw [← ha0] at this
    refine ⟨⟨CA, CB, 0, 0, ?_, Int.le_refl _, Int.le_refl _, Int.le_refl _, Int.le_refl _⟩, by rw [hp0]; exact okA, by rw [hp0]; exact okB, by rw [hp0]; exact Nat.zero_le _, by rw [hp0]; exact Nat.zero_le _⟩
    rw [hp0]
    exact this
  replace ha0 := Rg.hid ha0
  replace hp0 := Rg.hid hp0
  replace okA := Rg.hid okA
  clear cl u0 u1 k0 k1 z1 z2 z3 z4 z5 z6 z7 z8 HG b0 hD1 b1 st2 b2 hP2 hok okB hop hBP hn2
  obtain ⟨K0, hK0⟩ : ∃ K0 : Nat → Prop, K0 = fun b => b ≠ BP := ⟨_, rfl⟩
  have hK02 : ∀ b, w2.heap.size ≤ b → K0 b := by
    intro b h2
    rw [hK0]
    have := hPlt.out
    show b ≠ BP
    omega
  have hq0 : a0.queue.length ≤ 1000 := by rw [ha0.out]; exact Nat.zero_le _
  have HS := Rg.hid (hsend (hA2.out K0) okA.out.rt ⟨0, s⟩ hq0 hK02)
  replace HS : Hid (Calls Tryz.prog 17 #[.agg CA, .agg #[.int .i64 0, .string s]] w2 fun e w' => HPost K0 w2 (Gp.send a0 ⟨0, s⟩) e w') := HS
  have okS := Rg.hid (okA.out.send ⟨0, s⟩)
  obtain ⟨r9, hr9⟩ : ∃ r9, r9 = Gp.send a0 ⟨0, s⟩ := ⟨_, rfl⟩
  rw [← hr9] at HS okS hfor
  replace hr9 := Rg.hid hr9
  replace hK02 := Rg.hid hK02
  clear hq0
  go_upto_region 7 with (first | (with_reducible refine is_load (.tmp 35) 29 ?_; refine list_mload (.tmp 35) 29 rfl hldP.out ?_) | (go_at_call 17; refine HS.out.mono ?_; rintro e w3 ⟨C9, rfl, hA3, b3⟩; obtain ⟨w4, st4, k4, b4, hA4⟩ := hA3.out.fresh.box) | (with_reducible refine is_store (.tmp 9) (.tmp 40) 29 ?_; refine list_store (.tmp 9) (.tmp 40) 29 rfl rfl st4.out ?_))
  obtain ⟨B9, hB9⟩ : ∃ B, B = w3.heap.size := ⟨_, rfl⟩
  rw [← hB9] at k4 hA4 ⊢
  have b24 := Rg.hid (Rg.chain b3.out b4.out)
  obtain ⟨K1, hK1⟩ : ∃ K1 : Nat → Prop, K1 = fun b => K0 b ∧ b ≠ B9 := ⟨_, rfl⟩
  rw [← hK1] at hA4
  have hA24 : Hid (∀ Kp : Nat → Prop, DH Kp w4 a0 CA) := fun Kp => (hA2.out Kp).below b24.out
  have hps4 : Hid (∀ Kp : Nat → Prop, ¬ Kp BP → PS Kp BP w4 [] [] p0 0 0) := fun Kp h => (hps.out Kp h).below b24.out
  have hldP4 := Rg.hid (hPB.out.below b24.out).loadA
  have hK14 : ∀ b, w4.heap.size ≤ b → K1 b := by
    intro b h2
    rw [hK1]
    have := k4.out.lt
    exact ⟨hK02.out b (Nat.le_trans b24.out.size h2), by omega⟩
  have HC := Rg.hid (hclose (hA24.out K1) okA.out.rt hK14)
  have okC := Rg.hid okA.out.close
  obtain ⟨r11, hr11⟩ : ∃ r11, r11 = Gp.close a0 := ⟨_, rfl⟩
  have hfor2 : Hid ((Gp.ticks 40 r9.1).phase = 5 ∧ (Gp.ticks 40 r11.1).phase = 4) := by show _ ∧ _; rw [hr11, ha0.out]; have h9 := hfor.out; rw [ha0.out] at h9; exact h9
  rw [← hr11] at HC okC
  replace hr11 := Rg.hid hr11
  replace hK14 := Rg.hid hK14
  have b04 := Rg.hid (Rg.chain b02.out b24.out)
  have hP4 : Hid (BP < w4.heap.size) := Nat.lt_of_lt_of_le hPlt.out b24.out.size
  have h9w : Hid (w.heap.size ≤ B9) := by show _ ≤ _; rw [hB9]; exact Nat.le_trans b02.out.size b3.out.size
  have n9P : Hid (B9 ≠ BP) := by show _ ≠ _; have := hPlt.out; have := b3.out.size; omega
  clear hPB hldP HS st4 hA3 b3 b4 hps hA2 hfor b02 hPlt hA24 b24 hB9 hK02
  go_upto_region 8 with (first | (with_reducible refine is_load (.tmp 44) 29 ?_; refine list_mload (.tmp 44) 29 rfl hldP4.out ?_) | (go_at_call 19; refine HC.out.mono ?_; rintro e w5 ⟨C11, rfl, hC5, b5⟩; obtain ⟨w6, st6, k6, b6, hC6⟩ := hC5.out.fresh.box) | (with_reducible refine is_store (.tmp 11) (.tmp 47) 29 ?_; refine list_store (.tmp 11) (.tmp 47) 29 rfl rfl st6.out ?_))
  obtain ⟨B11, hB11⟩ : ∃ B, B = w5.heap.size := ⟨_, rfl⟩
  rw [← hB11] at k6 hC6 ⊢
  have b46 := Rg.hid (Rg.chain b5.out b6.out)
  obtain ⟨Kp, hKp⟩ : ∃ Kp : Nat → Prop, Kp = fun b => K1 b ∧ b ≠ B11 := ⟨_, rfl⟩
  rw [← hKp] at hC6
  have hA6 : Hid (DH Kp w6 r9.1 C9) := by rw [hKp, hB11]; exact ((hA4.out.below b5.out).fresh).below b6.out
  have k96 := Rg.hid (k4.out.below b46.out k4.out.lt)
  have no9 : Hid (¬ Kp B9) := by show ¬ _; rw [hKp, hK1]; exact fun h => h.1.2 rfl
  have no11 : Hid (¬ Kp B11) := by show ¬ _; rw [hKp]; exact fun h => h.2 rfl
  have noP : Hid (¬ Kp BP) := by show ¬ _; rw [hKp, hK1, hK0]; exact fun h => h.1.1 rfl
  have hK6 : Hid (∀ W : World, w6.heap.size ≤ W.heap.size → ∀ b, W.heap.size ≤ b → Kp b) := by
    intro W h1 b h2
    rw [hKp]
    have := k6.out.lt
    exact ⟨hK14.out b (by have := b46.out.size; omega), by omega⟩
  have n911 : Hid (B9 ≠ B11) := by show _ ≠ _; have := k4.out.lt; have := b5.out.size; omega
  have n11P : Hid (B11 ≠ BP) := by show _ ≠ _; have := hP4.out; have := b5.out.size; omega
  have h11w : Hid (w.heap.size ≤ B11) := by show _ ≤ _; have := b04.out.size; have := b5.out.size; omega
  have hI0 : Hid (GuI Kp B9 B11 BP w w6 w6 (Gp.ticks 0 r9.1) (Gp.ticks 0 r11.1) p0 0 0) := ⟨⟨C9, k96.out, hA6.out⟩, ⟨C11, k6.out, hC6.out⟩, (hps4.out Kp noP.out).below b46.out, Rg.chain b04.out b46.out, Nat.le_refl _⟩
  clear hldP4 HC st6 hC5 b5 b6 hps4 hC6 hA6 hA4 k4 k6 k96 b04 b46 hK14 hB11 hP4 hKp hK1 hK0
  go_wp2
  go_loopw [49] (fun vi wr => ∃ i : Nat, i ≤ 40 ∧ vi = .int .i64 i ∧ Hid (GuI Kp B9 B11 BP w w6 wr (Gp.ticks i r9.1) (Gp.ticks i r11.1) p0 0 0)) (fun vi _ => 40 - (intOf vi).toNat)
  case atStart => exact ⟨0, Nat.zero_le _, rfl, hI0⟩
  case round =>
    obtain ⟨i, hi, rfl, hI⟩ := hrel
    obtain ⟨⟨X9, k9, hd9⟩, ⟨X11, k11, hd11⟩, hps, bw, hsz⟩ := hI.out
    by_cases hil : i < 40
    · have ok9 := ok_ticks (by decide) i okS.out
      have ok11 := ok_ticks (by decide) i okC.out
      have HT9 := Rg.hid (htick hd9 ok9.rt (ok_tick_at ok9 (by decide)) (hK6.out wr hsz))
      have e9 := Rg.hid (Gp.ticks_succ i r9.1)
      have e11 := Rg.hid (Gp.ticks_succ i r11.1)
      have HT11 : Hid (∀ W, Below wr.heap.size wr W → DH Kp W (Gp.ticks i r11.1) X11 → Calls Tryz.prog 14 #[.agg X11] W fun e w' => HPost Kp W (Gp.tick (Gp.ticks i r11.1)) e w') := fun W hW h => htick h ok11.rt (ok_tick_at ok11 (by decide)) (hK6.out W (Nat.le_trans hsz hW.size))
      have HT11' : Hid (∀ W, wr.heap.size ≤ W.heap.size → DH Kp W (Gp.ticks i r11.1) X11 → Calls Tryz.prog 14 #[.agg X11] W fun e w' => HPost Kp W (Gp.tick (Gp.ticks i r11.1)) e w') := fun W hW h => htick h ok11.rt (ok_tick_at ok11 (by decide)) (hK6.out W (Nat.le_trans hsz hW))
      obtain ⟨m, hm⟩ : ∃ m, m = i + 1 := ⟨_, rfl⟩
      replace hm := Rg.hid hm
      obtain ⟨d9, hd9e⟩ : ∃ d, d = Gp.ticks i r9.1 := ⟨_, rfl⟩
      obtain ⟨d11, hd11e⟩ : ∃ d, d = Gp.ticks i r11.1 := ⟨_, rfl⟩
      rw [← hd9e] at hd9 HT9
      rw [← hd11e] at hd11 HT11'
      replace k9 := Rg.hid k9
      replace k11 := Rg.hid k11
      replace hd9 := Rg.hid hd9
      replace hd11 := Rg.hid hd11
      replace hps := Rg.hid hps
      replace bw := Rg.hid bw
      replace hsz := Rg.hid hsz
      replace hd9e := Rg.hid hd9e
      replace hd11e := Rg.hid hd11e
      have hld9 := Rg.hid (hd9.out.load k9.out)
      clear HT11 ok9 ok11 hI hI0
      go_upto_region 11 with (first | (with_reducible refine is_load (.tmp 9) 29 ?_; refine list_load (.tmp 9) 29 rfl hld9.out ?_) | (go_at_call 14; refine HT9.out.mono ?_; rintro e w7 ⟨Y9, rfl, hy9, b7⟩; obtain ⟨w8, st8, k8, o8⟩ := hy9.out.over hd9.out (k9.out.below b7.out k9.out.lt)) | (with_reducible refine is_store (.tmp 9) (.tmp 54) 29 ?_; refine list_store (.tmp 9) (.tmp 54) 29 rfl rfl st8.out ?_))
      have hy98 := Rg.hid (hy9.out.only no9.out o8.out)
      have k118 := Rg.hid ((k11.out.below b7.out k11.out.lt).same (o8.out.block B11 (fun e => n911.out e.symm)))
      have hd118 := Rg.hid ((hd11.out.below b7.out).only no9.out o8.out)
      have hps8 := Rg.hid ((hps.out.below b7.out).only (fun e => n9P.out e.symm) no9.out o8.out)
      have bw8 := Rg.hid ((Rg.chain bw.out b7.out).trans (o8.out.bel h9w.out))
      have hsz8 : Hid (wr.heap.size ≤ w8.heap.size) := by show _ ≤ _; rw [o8.out.size]; exact b7.out.size
      have hld11 := Rg.hid (hd118.out.load k118.out)
      have HT := Rg.hid (HT11'.out w8 hsz8.out hd118.out)
      clear hld9 HT9 HT11' hy9 b7 st8 o8 k9 k11 hd9 hd11 hps bw
      go_upto_region 12 with (first | (with_reducible refine is_load (.tmp 11) 29 ?_; refine list_load (.tmp 11) 29 rfl hld11.out ?_) | (go_at_call 14; refine HT.out.mono ?_; rintro e w9 ⟨Y11, rfl, hy11, b9⟩; obtain ⟨w10, st10, k10, o10⟩ := hy11.out.over hd118.out (k118.out.below b9.out k118.out.lt)) | (with_reducible refine is_store (.tmp 11) (.tmp 59) 29 ?_; refine list_store (.tmp 11) (.tmp 59) 29 rfl rfl st10.out ?_))
      have hI2 : Hid (GuI Kp B9 B11 BP w w6 w10 (Gp.ticks m r9.1) (Gp.ticks m r11.1) p0 0 0) := by
        refine ⟨⟨Y9, (k8.out.below b9.out k8.out.lt).same (o10.out.block B9 n911.out), ?_⟩, ⟨Y11, k10.out, ?_⟩, (hps8.out.below b9.out).only (fun e => n11P.out e.symm) no11.out o10.out, (Rg.chain bw8.out b9.out).trans (o10.out.bel h11w.out), ?_⟩
        · rw [hm.out, e9.out, ← hd9e.out]; exact (hy98.out.below b9.out).only no11.out o10.out
        · rw [hm.out, e11.out, ← hd11e.out]; exact hy11.out.only no11.out o10.out
        · rw [o10.out.size]; exact Nat.le_trans hsz.out (Nat.le_trans hsz8.out b9.out.size)
      clear hld11 HT hy11 b9 st10 o10 k10 k8 hy98 hd118 k118 hps8 bw8
      go_wp2
      go_roundw
      case rel => exact ⟨m, suc_le hm.out hil, suc_v hm.out, hI2⟩
      case measure => exact suc_meas2 hm.out hil
    · have hi40 : i = 40 := by omega
      subst hi40
      rw [show ((40 : Nat) : Int) = 40 from rfl]
      have f9 : Hid ((Gp.ticks 40 r9.1).phase = 5) := hfor2.out.1
      have f11 : Hid ((Gp.ticks 40 r11.1).phase = 4) := hfor2.out.2
      have hq9 : Hid (∀ W2, Rg.Bk B9 X9.toList 29 W2 → W2.cell? ⟨B9, 1, none⟩ = some (.int .i64 5)) := fun W2 k => by rw [← f9.out]; exact ph_at hd9 k
      have hq11 : Hid (∀ W2, Rg.Bk B11 X11.toList 29 W2 → W2.cell? ⟨B11, 1, none⟩ = some (.int .i64 4)) := fun W2 k => by rw [← f11.out]; exact ph_at hd11 k
      have hJ0 : Hid (GuJ Kp B9 B11 BP w w6 wr X9 X11 (Gp.rnds 0 p0) (12000 * 0) (1200 * 0)) := ⟨k9, k11, hps, bw, hsz⟩
      clear hI hI0 k9 k11 hd9 hd11 hps bw hsz f9 f11 hfor2 okS okC okA
      go_wp2
      go_loopw [62] (fun vn wx => ∃ n : Nat, n ≤ 5 ∧ vn = .int .i64 n ∧ Hid (GuJ Kp B9 B11 BP w w6 wx X9 X11 (Gp.rnds n p0) (12000 * n) (1200 * n))) (fun vn _ => 5 - (intOf vn).toNat)
      case atStart => exact ⟨0, Nat.zero_le _, rfl, hJ0⟩
      case round =>
        obtain ⟨n, hn, rfl, hJ⟩ := hrel
        by_cases hnl : n < 5
        · obtain ⟨m, hm⟩ : ∃ m, m = n + 1 := ⟨_, rfl⟩
          replace hm := Rg.hid hm
          have hs := Rg.hid (hsm.out n)
          have hn5 : Hid (n ≤ 5) := hn
          have hn6 : decide ((n : Int) < 5) = true := by simp; omega
          clear hJ0
          go_wp2
          go_loopw [64] (fun vk wx => (vk = .int .i64 0 ∧ Hid (GuJ Kp B9 B11 BP w w6 wx X9 X11 (Gp.rnds n p0) (12000 * n) (1200 * n))) ∨ (vk = .int .i64 1 ∧ Hid (GuJ Kp B9 B11 BP w w6 wx X9 X11 (Gp.hA (Gp.rnds n p0)) (12000 * n + 6000) (1200 * n + 600))) ∨ (vk = .int .i64 2 ∧ Hid (GuJ Kp B9 B11 BP w w6 wx X9 X11 (Gp.rnd (Gp.rnds n p0)) (12000 * n + 12000) (1200 * n + 1200)))) (fun vk _ => 2 - (intOf vk).toNat)
          case atStart => exact .inl ⟨rfl, hJ⟩
          case round =>
            rcases hrel with ⟨rfl, hJ1⟩ | ⟨rfl, hJ1⟩ | ⟨rfl, hJ1⟩
            · have c36 := hJ1.out.ps.w0
              have HH := Rg.hid (half_a hJ1.out.ps hs.out (by have := hn5.out; omega) (by have := hn5.out; omega) (hK6.out wr hJ1.out.sz) _ rfl)
              obtain ⟨X, hX⟩ : ∃ X : ByteArray, X = ⟨(Gp.rnds n p0).w0.toArray⟩ := ⟨_, rfl⟩
              obtain ⟨q, hq⟩ : ∃ q : Nat, q = (Gp.rnds n p0).w0.length := ⟨_, rfl⟩
              have hXq : (X.size : Int) = (q : Int) := by rw [hX, hq, size_bytes]
              rw [← hX] at c36
              rw [← hq] at HH
              clear hX hq hJ
              go_wp2_with (go_at_call 24; refine HH.out.mono ?_; rintro e w7 ⟨rfl, hp7, o7⟩)
              go_roundw
              case rel => exact .inr (.inl ⟨by go_num, hJ1.out.step n9P.out n11P.out hPw.out hp7.out o7.out⟩)
              case measure => simp [intOf]
            · have c37 := hJ1.out.ps.w1
              have HH := Rg.hid (half_b hJ1.out.ps hs.out (by have := hn5.out; omega) (by have := hn5.out; omega) (hK6.out wr hJ1.out.sz) _ rfl)
              obtain ⟨X, hX⟩ : ∃ X : ByteArray, X = ⟨(Gp.hA (Gp.rnds n p0)).w1.toArray⟩ := ⟨_, rfl⟩
              obtain ⟨q, hq⟩ : ∃ q : Nat, q = (Gp.hA (Gp.rnds n p0)).w1.length := ⟨_, rfl⟩
              have hXq : (X.size : Int) = (q : Int) := by rw [hX, hq, size_bytes]
              rw [← hX] at c37
              rw [← hq] at HH
              clear hX hq hJ
              go_wp2_with (go_at_call 24; refine HH.out.mono ?_; rintro e w7 ⟨rfl, hp7, o7⟩)
              go_roundw
              case rel => exact .inr (.inr ⟨by go_num, hJ1.out.step n9P.out n11P.out hPw.out hp7.out o7.out⟩)
              case measure => simp [intOf]
            · have hJ2 : Hid (GuJ Kp B9 B11 BP w w6 wr X9 X11 (Gp.rnds m p0) (12000 * m) (1200 * m)) := by
                have h9 := hJ1.out
                rw [← Gp.rnds_succ, ← hm.out] at h9
                have q1 : 12000 * n + 12000 = 12000 * m := by have := hm.out; omega
                have q2 : 1200 * n + 1200 = 1200 * m := by have := hm.out; omega
                rw [q1, q2] at h9
                exact h9
              clear hJ1 hJ
              go_wp2
              go_roundw
              case rel => exact ⟨m, suc_le hm.out hnl, suc_v hm.out, hJ2⟩
              case measure => exact suc_meas2 hm.out hnl
        · have hn5 : n = 5 := by omega
          subst hn5
          obtain ⟨kx9, kx11, hps5, bw5, sz5⟩ := hJ.out
          have okb5 := hps5.okb
          obtain ⟨⟨DA, DB, t0, t1, hPB5, _⟩, _⟩ := hps5
          have hldB := Rg.hid hPB5.loadB
          obtain ⟨b5, hb5e⟩ : ∃ b5, b5 = (Gp.rnds 5 p0).b := ⟨_, rfl⟩
          have hph5 : Hid ((Gp.ticks 40 b5).phase = 2) := by show _ = _; rw [hb5e]; exact hend.out (okb5.mono (by decide))
          have hdb := hPB5.hb
          rw [← hb5e] at hdb okb5
          obtain ⟨w8, st8, k8, b8, hd8⟩ := hdb.fresh.box
          obtain ⟨Kq, hKq⟩ : ∃ Kq : Nat → Prop, Kq = fun b => Kp b ∧ b ≠ wr.heap.size := ⟨_, rfl⟩
          rw [← hKq] at hd8
          obtain ⟨B14, hB14⟩ : ∃ B, B = wr.heap.size := ⟨_, rfl⟩
          have no14 : Hid (¬ Kq B14) := by show ¬ _; rw [hKq, hB14]; exact fun h => h.2 rfl
          have hK8 : Hid (∀ W : World, w8.heap.size ≤ W.heap.size → ∀ b, W.heap.size ≤ b → Kq b) := by
            intro W h1 b h2
            rw [hKq]
            have := k8.out.lt
            exact ⟨hK6.out wr sz5 b (by omega), by omega⟩
          have n914 : Hid (B9 ≠ B14) := by show _ ≠ _; have := kx9.lt; omega
          have n1114 : Hid (B11 ≠ B14) := by show _ ≠ _; have := kx11.lt; omega
          have h14w : Hid (w.heap.size ≤ B14) := by show _ ≤ _; rw [hB14]; exact bw5.size
          rw [← hB14] at k8
          have hL0 : Hid (GuK Kq B9 B11 B14 w w8 w8 X9 X11 (Gp.ticks 0 b5)) := ⟨kx9.below b8.out kx9.lt, kx11.below b8.out kx11.lt, ⟨DB, k8.out, hd8.out⟩, Rg.chain bw5 b8.out, Nat.le_refl _⟩
          replace okb5 := Rg.hid okb5
          replace hb5e := Rg.hid hb5e
          clear hJ hJ0 kx9 kx11 bw5 sz5 hPB5 hdb hd8 k8 b8 hKq hend hsm
          go_upto_region 22 with (first | (with_reducible refine is_load (.tmp 78) 29 ?_; refine list_mload (.tmp 78) 29 rfl hldB.out ?_) | (with_reducible refine is_store (.tmp 14) (.tmp 79) 29 ?_; refine list_store (.tmp 14) (.tmp 79) 29 rfl rfl st8.out ?_))
          rw [← hB14]
          clear hldB st8 hB14
          go_wp2
          go_loopw [80] (fun vi wx => ∃ i : Nat, i ≤ 40 ∧ vi = .int .i64 i ∧ Hid (GuK Kq B9 B11 B14 w w8 wx X9 X11 (Gp.ticks i b5))) (fun vi _ => 40 - (intOf vi).toNat)
          case atStart => exact ⟨0, Nat.zero_le _, rfl, hL0⟩
          case round =>
            obtain ⟨i, hi, rfl, hL⟩ := hrel
            obtain ⟨q9, q11, ⟨X14, q14, hd14⟩, bwL, szL⟩ := hL.out
            by_cases hil : i < 40
            · have okt := ok_ticks (by decide) i okb5.out
              have HT := Rg.hid (htick hd14 okt.rt (ok_tick_at okt (by decide)) (hK8.out wr szL))
              have e14 := Rg.hid (Gp.ticks_succ i b5)
              obtain ⟨m, hm⟩ : ∃ m, m = i + 1 := ⟨_, rfl⟩
              replace hm := Rg.hid hm
              obtain ⟨d14, hd14e⟩ : ∃ d, d = Gp.ticks i b5 := ⟨_, rfl⟩
              rw [← hd14e] at hd14 HT
              replace hd14e := Rg.hid hd14e
              replace q9 := Rg.hid q9
              replace q11 := Rg.hid q11
              replace q14 := Rg.hid q14
              replace hd14 := Rg.hid hd14
              replace bwL := Rg.hid bwL
              replace szL := Rg.hid szL
              have hld14 := Rg.hid (hd14.out.load q14.out)
              clear okt hL hL0
              go_upto_region 25 with (first | (with_reducible refine is_load (.tmp 14) 29 ?_; refine list_load (.tmp 14) 29 rfl hld14.out ?_) | (go_at_call 14; refine HT.out.mono ?_; rintro e w9 ⟨Y14, rfl, hy14, b9⟩; obtain ⟨w10, st10, k10, o10⟩ := hy14.out.over hd14.out (q14.out.below b9.out q14.out.lt)) | (with_reducible refine is_store (.tmp 14) (.tmp 85) 29 ?_; refine list_store (.tmp 14) (.tmp 85) 29 rfl rfl st10.out ?_))
              have hL2 : Hid (GuK Kq B9 B11 B14 w w8 w10 X9 X11 (Gp.ticks m b5)) := by
                refine ⟨(q9.out.below b9.out q9.out.lt).same (o10.out.block B9 n914.out), (q11.out.below b9.out q11.out.lt).same (o10.out.block B11 n1114.out), ⟨Y14, k10.out, ?_⟩, (Rg.chain bwL.out b9.out).trans (o10.out.bel h14w.out), ?_⟩
                · rw [hm.out, e14.out, ← hd14e.out]; exact hy14.out.only no14.out o10.out
                · rw [o10.out.size]; exact Nat.le_trans szL.out b9.out.size
              clear hld14 HT hy14 b9 st10 o10 k10 q9 q11 q14 hd14 bwL
              go_wp2
              go_roundw
              case rel => exact ⟨m, suc_le hm.out hil, suc_v hm.out, hL2⟩
              case measure => exact suc_meas2 hm.out hil
            · have hi40 : i = 40 := by omega
              subst hi40
              have g9 := hq9.out wr q9
              have g11 := hq11.out wr q11
              have g14 : wr.cell? ⟨B14, 1, none⟩ = some (.int .i64 2) := by rw [← hph5.out]; exact ph_at hd14 q14
              have HA := Rg.hid (awake_any wr)
              replace bwL := Rg.hid bwL
              clear hL hL0 q9 q11 q14 hd14 szL hq9 hq11 hph5
              go_wp2_with (go_at_call 10; refine HA.out.mono ?_; rintro e w9 ⟨rfl, b9⟩)
              go_ret
              exact ⟨rfl, Rg.chain bwL.out b9⟩
set_option maxHeartbeats 1000000 in
set_option maxRecDepth 100000 in
theorem givesup_long (x y : Int) (s : ByteArray) (w : World) (hn2 : (2000 : Int) < (s.size : Int)) (HA : Hid (Calls Tryz.prog 10 #[] w fun e w' => e = .returned (.bool true) ∧ Below w.heap.size w w')) :
    Calls Tryz.prog 5 #[.int .i64 x, .int .i64 y, .string s] w fun e w' => e = .returned (.bool true) ∧ Below w.heap.size w w' := by
  go_enter Tryz.func5, Tryz.ntmps5
  go_wp2_with (go_at_call 10; refine HA.out.mono ?_; rintro e w9 ⟨rfl, b9⟩)
  go_ret
  exact ⟨rfl, b9⟩
theorem givesup_walk (x y : Int) (s : ByteArray) (w : World) : Calls Tryz.prog 5 #[.int .i64 x, .int .i64 y, .string s] w fun e w' => e = .returned (.bool true) ∧ Below w.heap.size w w' := by
  by_cases hn : 2000 < s.size
  · exact givesup_long x y s w (by omega) (awake_any w)
  · obtain ⟨U, K, u0, u1, hK, k0, k1⟩ := two_letters x
    obtain ⟨lt, hlt, cl⟩ := letter_at w K hK
    exact givesup_core x y s U K w lt u0 u1 k0 k1 cl hlt (by omega)
end Go.Proofs.YtfiffbohhhehkaaGreat
