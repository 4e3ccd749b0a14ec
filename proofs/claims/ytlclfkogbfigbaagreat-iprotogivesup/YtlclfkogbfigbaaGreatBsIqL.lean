/-
  Layer 16: IprotoGivesUp's walk.
-/
import Derived.Test.YtlclfkogbfigbaaGreatBsIqK
namespace Go.Proofs.YtlclfkogbfigbaaGreat
open Go.RowKit
/-- what stands while two ends give up -/
structure IGuI (Kp : Nat → Prop) (B9 B11 BP : Nat) (w w6 wr : World) (da dc : Gp.Dr) (p : Ip.Pw) (N : Nat) : Prop where
  ha : ∃ C, Rg.Bk B9 (Array.toList C) 29 wr ∧ IDH Kp wr da C
  hc : ∃ C, Rg.Bk B11 (Array.toList C) 29 wr ∧ IDH Kp wr dc C
  ps : IPS Kp BP wr p N
  bw : Below w.heap.size w wr
  sz : w6.heap.size ≤ wr.heap.size
/-- the same, once nobody looks at their lists any more -/
structure IGuJ (Kp : Nat → Prop) (B9 B11 BP : Nat) (w w6 wr : World) (C9 C11 : Array Value) (p : Ip.Pw) (N : Nat) : Prop where
  ha : Rg.Bk B9 (Array.toList C9) 29 wr
  hc : Rg.Bk B11 (Array.toList C11) 29 wr
  ps : IPS Kp BP wr p N
  bw : Below w.heap.size w wr
  sz : w6.heap.size ≤ wr.heap.size
theorem IGuJ.step {Kp : Nat → Prop} {B9 B11 BP N N2 : Nat} {w w6 wr w' : World} {C9 C11 : Array Value} {p p2 : Ip.Pw} (h : IGuJ Kp B9 B11 BP w w6 wr C9 C11 p N) (h9 : B9 ≠ BP) (h11 : B11 ≠ BP) (hP : w.heap.size ≤ BP) (hs : IPS Kp BP w' p2 N2) (o : Oth BP wr w') : IGuJ Kp B9 B11 BP w w6 w' C9 C11 p2 N2 :=
  ⟨o.bk h.ha h9, o.bk h.hc h11, hs, h.bw.trans (o.bel hP h.bw.size), Nat.le_trans h.sz o.size⟩
/-- the last ticks -/
structure IGuK (Kq : Nat → Prop) (B9 B11 B14 : Nat) (w w8 wr : World) (C9 C11 : Array Value) (d : Gp.Dr) : Prop where
  ha : Rg.Bk B9 (Array.toList C9) 29 wr
  hc : Rg.Bk B11 (Array.toList C11) 29 wr
  hb : ∃ C, Rg.Bk B14 (Array.toList C) 29 wr ∧ IDH Kq wr d C
  bw : Below w.heap.size w wr
  sz : w8.heap.size ≤ wr.heap.size
theorem iph_at {Kp : Nat → Prop} {W W2 : World} {d : Gp.Dr} {CS : Array Value} {B : Nat} (h : IDH Kp W d CS) (k : Rg.Bk B CS.toList 29 W2) : W2.cell? ⟨B, 1, none⟩ = some (.int .i64 d.phase) := by
  obtain ⟨p, rfl, _⟩ := h
  exact k.cell 1
theorem isuc_v {i m : Nat} (h : m = i + 1) : Value.int .i64 ((i : Int) + 1) = .int .i64 (m : Int) := by subst h; simp
theorem isuc_meas2 {i m n : Nat} (_h : m = i + 1) (hi : i < n) : n - (intOf (.int .i64 ((i : Int) + 1))).toNat < n - (intOf (.int .i64 (i : Int))).toNat := by simp [intOf]; omega
set_option maxHeartbeats 8000000 in
set_option maxRecDepth 100000 in
theorem igivesup_core (x : Int) (s T : ByteArray) (w : World) (hT : Hid (T = ⟨#[]⟩)) (hn2 : ¬ (2000 : Int) < (s.size : Int)) :
    Calls Tryz.prog 6 #[.int .i64 x, .string s] w fun e w' => e = .returned (.bool true) ∧ Below w.heap.size w w' := by
  have HG := Rg.hid (ibegun_any x x w)
  go_enter Tryz.func6, Tryz.ntmps6
  go_upto_region 4 with (first | (go_at_call 23; refine HG.out.mono ?_; rintro e w1 ⟨CA, CB, za, zb, ra, rb, rfl, hD1, b1, hok⟩; obtain ⟨w2, st2, b2, hP2⟩ := ipair_box (w0 := Ip.sync (Ip.begin_ false zb rb)) (w1 := Ip.sync (Ip.begin_ true za ra)) (fun Kp => (hD1.out Kp).1) (fun Kp => (hD1.out Kp).2)) | (with_reducible refine is_store (.tmp 5) (.tmp 23) 54 ?_; refine list_store (.tmp 5) (.tmp 23) 54 rfl rfl st2.out ?_))
  obtain ⟨BP, hBP⟩ : ∃ B, B = w1.heap.size := ⟨_, rfl⟩
  rw [← hBP] at hP2 ⊢
  obtain ⟨z1, z2, z3, z4⟩ := hok.out
  have hPB := Rg.hid (hP2.out (fun b => b ≠ BP) (fun h => h rfl))
  have hldP := Rg.hid hPB.out.loadA
  have b02 := Rg.hid (Rg.chain b1.out b2.out)
  have hPw : Hid (w.heap.size ≤ BP) := by show _ ≤ _; rw [hBP]; exact b1.out.size
  have hPlt := Rg.hid ((hP2.out (fun b => b ≠ BP) (fun h => h rfl)).bk.lt)
  have hA2 : Hid (∀ Kp : Nat → Prop, IDH Kp w2 (Ip.begin_ true za ra) CA) := fun Kp => (hD1.out Kp).1.below b2.out
  obtain ⟨a0, ha0⟩ : ∃ a0, a0 = Ip.begin_ true za ra := ⟨_, rfl⟩
  have okA : Ip.Ok 0 0 a0 := by rw [ha0]; exact Ip.Ok.begin_ true z1 z3
  have okB : Ip.Ok 0 0 (Ip.begin_ false zb rb) := Ip.Ok.begin_ false z2 z4
  obtain ⟨p0, hp0⟩ : ∃ p0 : Ip.Pw, p0 = ⟨a0, Ip.begin_ false zb rb, Ip.sync (Ip.begin_ false zb rb), Ip.sync a0⟩ := ⟨_, rfl⟩
  have hsm : Hid (∀ n, Ip.Hs (Ip.rnds n p0)) := by rw [hp0, ha0]; exact Ip.hs_all z1 z3 z2 z4
  have hend : Hid ((Ip.ticks 40 (Ip.rnds 3 p0).b).phase = 2) := by
    have hc := Ip.calm_all z1 z3 z2 z4 2
    rw [hp0, ha0]
    exact Ip.ticks_idle 40 hc.pb hc.wb
  have hfor := Rg.hid (Ip.forty true za ra ⟨0, s⟩)
  have hal : Hid (∀ n, n ≤ 100 → Ip.Al n (Ip.alone n (Ip.send a0 ⟨0, s⟩))) := by rw [ha0]; exact Ip.al_all true z1 z3 ⟨0, s⟩
  rw [← ha0] at hfor hA2
  have hps : Hid (∀ Kp : Nat → Prop, ¬ Kp BP → IPS Kp BP w2 p0 0) := fun Kp hn => by
    have := hP2.out Kp hn
    rw [← ha0] at this
    refine ⟨⟨CA, CB, 0, 0, ?_, Int.le_refl _, Int.le_refl _, Int.le_refl _, Int.le_refl _⟩, by rw [hp0]; exact okA, by rw [hp0]; exact okB⟩
    rw [hp0]
    exact this
  replace ha0 := Rg.hid ha0
  replace hp0 := Rg.hid hp0
  replace okA := Rg.hid okA
  clear z1 z2 z3 z4 HG hD1 b1 st2 b2 hP2 hok okB hBP hn2
  obtain ⟨K0, hK0⟩ : ∃ K0 : Nat → Prop, K0 = fun b => b ≠ BP := ⟨_, rfl⟩
  have hK02 : ∀ b, w2.heap.size ≤ b → K0 b := by
    intro b h2
    rw [hK0]
    have := hPlt.out
    show b ≠ BP
    omega
  have hq0 : a0.queue.length ≤ 1000 := by rw [ha0.out]; exact Nat.zero_le _
  have HS := Rg.hid (ihsend (hA2.out K0) okA.out.rt ⟨0, s⟩ hq0 hK02)
  have hr92 : (Ip.send a0 ⟨0, s⟩).2 = [] := (hal.out 0 (Nat.zero_le _)).said
  replace HS : Hid (Calls Tryz.prog 17 #[.agg CA, .agg #[.int .i64 0, .string s]] w2 fun e w' => IHPost K0 w2 (Ip.send a0 ⟨0, s⟩) e w') := HS
  have okS := Rg.hid (okA.out.send ⟨0, s⟩)
  obtain ⟨r9, hr9⟩ : ∃ r9, r9 = Ip.send a0 ⟨0, s⟩ := ⟨_, rfl⟩
  rw [← hr9] at HS okS hfor hal hr92
  replace HS : Hid (Calls Tryz.prog 17 #[.agg CA, .agg #[.int .i64 0, .string s]] w2 fun e w' => ∃ CS, e = .returned (.tuple #[.agg CS, .string T]) ∧ Hid (IDH K0 w' r9.1 CS) ∧ Hid (Below w2.heap.size w2 w')) := HS.out.mono fun e w' ⟨CS, h1, h2⟩ => ⟨CS, by rw [h1, hr92, hT.out], h2⟩
  clear hr92
  replace hr9 := Rg.hid hr9
  replace hK02 := Rg.hid hK02
  clear hq0
  go_upto_region 7 with (first | (with_reducible refine is_load (.tmp 29) 29 ?_; refine list_mload (.tmp 29) 29 rfl hldP.out ?_) | (go_at_call 17; refine HS.out.mono ?_; rintro e w3 ⟨C9, rfl, hA3, b3⟩; obtain ⟨w4, st4, k4, b4, hA4⟩ := hA3.out.fresh.box) | (with_reducible refine is_store (.tmp 7) (.tmp 34) 29 ?_; refine list_store (.tmp 7) (.tmp 34) 29 rfl rfl st4.out ?_))
  obtain ⟨B9, hB9⟩ : ∃ B, B = w3.heap.size := ⟨_, rfl⟩
  rw [← hB9] at k4 hA4 ⊢
  have b24 := Rg.hid (Rg.chain b3.out b4.out)
  obtain ⟨K1, hK1⟩ : ∃ K1 : Nat → Prop, K1 = fun b => K0 b ∧ b ≠ B9 := ⟨_, rfl⟩
  rw [← hK1] at hA4
  have hA24 : Hid (∀ Kp : Nat → Prop, IDH Kp w4 a0 CA) := fun Kp => (hA2.out Kp).below b24.out
  have hps4 : Hid (∀ Kp : Nat → Prop, ¬ Kp BP → IPS Kp BP w4 p0 0) := fun Kp h => (hps.out Kp h).below b24.out
  have hldP4 := Rg.hid (hPB.out.below b24.out).loadA
  have hK14 : ∀ b, w4.heap.size ≤ b → K1 b := by
    intro b h2
    rw [hK1]
    have := k4.out.lt
    exact ⟨hK02.out b (Nat.le_trans b24.out.size h2), by omega⟩
  have HC := Rg.hid (ihclose (hA24.out K1) okA.out.rt hK14)
  have okC := Rg.hid okA.out.close
  obtain ⟨r11, hr11⟩ : ∃ r11, r11 = Ip.close a0 := ⟨_, rfl⟩
  have hfor2 : Hid ((Ip.alone 40 r9).1.phase = 5 ∧ (Ip.ticks 40 r11.1).phase = 4) := by show _ ∧ _; rw [hr11, ha0.out]; have h9 := hfor.out; rw [ha0.out] at h9; exact h9
  rw [← hr11] at HC okC
  replace hr11 := Rg.hid hr11
  replace hK14 := Rg.hid hK14
  have b04 := Rg.hid (Rg.chain b02.out b24.out)
  have hP4 : Hid (BP < w4.heap.size) := Nat.lt_of_lt_of_le hPlt.out b24.out.size
  have h9w : Hid (w.heap.size ≤ B9) := by show _ ≤ _; rw [hB9]; exact Nat.le_trans b02.out.size b3.out.size
  have n9P : Hid (B9 ≠ BP) := by show _ ≠ _; have := hPlt.out; have := b3.out.size; omega
  clear hPB hldP HS st4 hA3 b3 b4 hps hA2 hfor b02 hPlt hA24 b24 hB9 hK02
  go_upto_region 8 with (first | (with_reducible refine is_load (.tmp 38) 29 ?_; refine list_mload (.tmp 38) 29 rfl hldP4.out ?_) | (go_at_call 19; refine HC.out.mono ?_; rintro e w5 ⟨C11, rfl, hC5, b5⟩; obtain ⟨w6, st6, k6, b6, hC6⟩ := hC5.out.fresh.box) | (with_reducible refine is_store (.tmp 9) (.tmp 41) 29 ?_; refine list_store (.tmp 9) (.tmp 41) 29 rfl rfl st6.out ?_))
  obtain ⟨B11, hB11⟩ : ∃ B, B = w5.heap.size := ⟨_, rfl⟩
  rw [← hB11] at k6 hC6 ⊢
  have b46 := Rg.hid (Rg.chain b5.out b6.out)
  obtain ⟨Kp, hKp⟩ : ∃ Kp : Nat → Prop, Kp = fun b => K1 b ∧ b ≠ B11 := ⟨_, rfl⟩
  rw [← hKp] at hC6
  have hA6 : Hid (IDH Kp w6 r9.1 C9) := by rw [hKp, hB11]; exact ((hA4.out.below b5.out).fresh).below b6.out
  have k96 := Rg.hid (k4.out.below b46.out k4.out.lt)
  have no9 : Hid (¬ Kp B9) := by show ¬ _; rw [hKp, hK1]; exact fun h => h.1.2 rfl
  have no11 : Hid (¬ Kp B11) := by show ¬ _; rw [hKp]; exact fun h => h.2 rfl
  have noP : Hid (¬ Kp BP) := by show ¬ _; rw [hKp, hK1, hK0]; exact fun h => h.1.1 rfl
  have hK6 : Hid (∀ W : World, w6.heap.size ≤ W.heap.size → ∀ b, W.heap.size ≤ b → Kp b) := by
    intro W h1 b h2
    rw [hKp]
    have := k6.out.lt
    exact ⟨hK14.out b (by have := b46.out.size; omega), by omega⟩
  have n911 : Hid (B9 ≠ B11) := by show _ ≠ _; have := k4.out.lt; have := b5.out.size; omega
  have n11P : Hid (B11 ≠ BP) := by show _ ≠ _; have := hP4.out; have := b5.out.size; omega
  have h11w : Hid (w.heap.size ≤ B11) := by show _ ≤ _; have := b04.out.size; have := b5.out.size; omega
  have hI0 : Hid (IGuI Kp B9 B11 BP w w6 w6 (Ip.alone 0 r9).1 (Ip.ticks 0 r11.1) p0 0) := ⟨⟨C9, k96.out, hA6.out⟩, ⟨C11, k6.out, hC6.out⟩, (hps4.out Kp noP.out).below b46.out, Rg.chain b04.out b46.out, Nat.le_refl _⟩
  clear hldP4 HC st6 hC5 b5 b6 hps4 hC6 hA6 hA4 k4 k6 k96 b04 b46 hK14 hB11 hP4 hKp hK1 hK0
  go_wp2
  go_loopw [8, 43] (fun vt vi wr => ∃ i : Nat, i ≤ 40 ∧ vi = .int .i64 i ∧ vt = .string T ∧ Hid (IGuI Kp B9 B11 BP w w6 wr (Ip.alone i r9).1 (Ip.ticks i r11.1) p0 0)) (fun _ vi _ => 40 - (intOf vi).toNat)
  case atStart => exact ⟨0, Nat.zero_le _, rfl, rfl, hI0⟩
  case round =>
    obtain ⟨i, hi, rfl, rfl, hI⟩ := hrel
    obtain ⟨⟨X9, k9, hd9⟩, ⟨X11, k11, hd11⟩, hps, bw, hsz⟩ := hI.out
    by_cases hil : i < 40
    · have al := hal.out i (by omega)
      obtain ⟨_, al2, al3⟩ := al.step (by omega)
      have ok11 := Ip.ok_ticks (by decide) i okC.out
      have HT9 := Rg.hid (ihtick hd9 al.ok.rt (Ip.ok_tick_at al.ok (by omega)) (hK6.out wr hsz))
      have okF := al.ok.tick (by omega)
      have smF := Ip.tick_small al.sm
      obtain ⟨m, hm⟩ : ∃ m, m = i + 1 := ⟨_, rfl⟩
      have eA : Hid ((Ip.alone m r9).1 = (Ip.feed (Ip.tick (Ip.alone i r9).1).1 (Ip.tick (Ip.alone i r9).1).2).1) := by
        show _ = _
        rw [hm, Ip.alone_succ]
        unfold Ip.astep
        rw [al.said, List.nil_append]
      have e11 := Rg.hid (Ip.ticks_succ i r11.1)
      have HT11' : Hid (∀ W, wr.heap.size ≤ W.heap.size → IDH Kp W (Ip.ticks i r11.1) X11 → Calls Tryz.prog 14 #[.agg X11] W fun e w' => IHPost Kp W (Ip.tick (Ip.ticks i r11.1)) e w') := fun W hW h => ihtick h ok11.rt (Ip.ok_tick_at ok11 (by decide)) (hK6.out W (Nat.le_trans hsz hW))
      have hb1 := okF.buf
      have ht1 := okF.tot
      have HF' : Hid (∀ (W : World) (CS : Array Value), wr.heap.size ≤ W.heap.size → IDH Kp W (Ip.tick (Ip.alone i r9).1).1 CS → Calls Tryz.prog 12 #[.agg CS, .string ⟨(Ip.tick (Ip.alone i r9).1).2.toArray⟩] W fun e w' => IHFPost Kp W (Ip.feed (Ip.tick (Ip.alone i r9).1).1 (Ip.tick (Ip.alone i r9).1).2) e w') := fun W CS hW h => ihfeed h okF.rt _ (by omega) (by omega) (fun x hx => by rw [al3] at hx; cases hx) (hK6.out W (Nat.le_trans hsz hW))
      replace hm := Rg.hid hm
      obtain ⟨d9, hd9e⟩ : ∃ d, d = (Ip.alone i r9).1 := ⟨_, rfl⟩
      obtain ⟨d11, hd11e⟩ : ∃ d, d = Ip.ticks i r11.1 := ⟨_, rfl⟩
      rw [← hd9e] at hd9 HT9 HF' eA al2 al3
      rw [← hd11e] at hd11 HT11' e11
      clear okF smF hb1 ht1 al ok11
      obtain ⟨rt, hrt⟩ : ∃ r, r = Ip.tick d9 := ⟨_, rfl⟩
      rw [← hrt] at HT9 HF' eA al2 al3
      obtain ⟨fd, hfd⟩ : ∃ f, f = Ip.feed rt.1 rt.2 := ⟨_, rfl⟩
      rw [← hfd] at HF' eA al3
      obtain ⟨U, hU⟩ : ∃ U : ByteArray, U = ⟨rt.2.toArray⟩ := ⟨_, rfl⟩
      obtain ⟨V, hUV⟩ : ∃ V : ByteArray, T ++ U = V := ⟨_, rfl⟩
      have hV : V = ⟨rt.2.toArray⟩ := by rw [← hUV, hT.out, hU]; exact Ip.cat_bytes [] rt.2
      have zz : T.size + U.size ≤ 1000 := by rw [hT.out, hU, isize_bytes]; show 0 + rt.2.length ≤ 1000; omega
      replace HT9 : Hid (Calls Tryz.prog 14 #[.agg X9] wr fun e w' => ∃ CS, e = .returned (.tuple #[.agg CS, .string U]) ∧ Hid (IDH Kp w' rt.1 CS) ∧ Hid (Below wr.heap.size wr w')) := by rw [hU]; exact HT9
      replace HF' : Hid (∀ (W : World) (CS : Array Value), wr.heap.size ≤ W.heap.size → IDH Kp W rt.1 CS → Calls Tryz.prog 12 #[.agg CS, .string V] W fun e w' => ∃ CX a c, e = .returned (.tuple #[.agg CX, .string T, .slice a 0 c]) ∧ Hid (IDH Kp w' fd.1 CX) ∧ Hid (Below W.heap.size W w')) := fun W CS h1 h2 => by
        rw [hV]
        refine (HF'.out W CS h1 h2).mono fun e w' ⟨CX, a, c, g1, g2, g3, _⟩ => ⟨CX, a, c, ?_, g2, g3⟩
        rw [g1, al3, hT.out]
        rfl
      replace k9 := Rg.hid k9
      replace k11 := Rg.hid k11
      replace hd9 := Rg.hid hd9
      replace hd11 := Rg.hid hd11
      replace hps := Rg.hid hps
      replace bw := Rg.hid bw
      replace hsz := Rg.hid hsz
      replace hd11e := Rg.hid hd11e
      have hld9 := Rg.hid (hd9.out.load k9.out)
      clear hI hI0 al2 al3 hU hV hrt hfd hd9e
      go_upto_region 11 with (first | (with_reducible refine is_load (.tmp 7) 29 ?_; refine list_load (.tmp 7) 29 rfl hld9.out ?_) | (go_at_call 14; refine HT9.out.mono ?_; rintro e w7 ⟨Yx, rfl, hyx, b7⟩; obtain ⟨w8, st8, k8, b8, hy8⟩ := hyx.out.fresh.box) | (with_reducible refine is_store (.tmp 11) (.tmp 48) 29 ?_; refine list_store (.tmp 11) (.tmp 48) 29 rfl rfl st8.out ?_))
      obtain ⟨BX, hBX⟩ : ∃ B, B = w7.heap.size := ⟨_, rfl⟩
      rw [← hBX] at k8 ⊢
      have b78 := Rg.hid (Rg.chain b7.out b8.out)
      have hy8' := Rg.hid (hy8.out.weak (Kq := Kp) fun x h => h.1)
      have hldx := Rg.hid (hy8.out.load k8.out)
      have k98 := Rg.hid (k9.out.below b78.out k9.out.lt)
      have hd98 := Rg.hid (hd9.out.below b78.out)
      have k118 := Rg.hid (k11.out.below b78.out k11.out.lt)
      have hd118 := Rg.hid (hd11.out.below b78.out)
      have hps8 := Rg.hid (hps.out.below b78.out)
      have bw8 := Rg.hid (Rg.chain bw.out b78.out)
      have hsz8 : Hid (wr.heap.size ≤ w8.heap.size) := b78.out.size
      have HF := Rg.hid (HF'.out w8 Yx hsz8.out hy8'.out)
      clear hld9 HT9 HF' hyx b7 st8 k8 b8 hy8 hy8' b78 hBX k9 k11 hd9 hd11 hps bw
      go_upto_region 12 with (first | (with_reducible refine is_load (.tmp 11) 29 ?_; refine list_load (.tmp 11) 29 rfl hldx.out ?_) | (go_at_call 12; refine HF.out.mono ?_; rintro e wf ⟨YF, af, cf, rfl, hyf, bf⟩; obtain ⟨wg, stg, kg, og⟩ := hyf.out.over hd98.out (k98.out.below bf.out k98.out.lt)) | (with_reducible refine is_store (.tmp 7) (.tmp 56) 29 ?_; refine list_store (.tmp 7) (.tmp 56) 29 rfl rfl stg.out ?_))
      have hy9g := Rg.hid (hyf.out.only no9.out og.out)
      have k11g := Rg.hid ((k118.out.below bf.out k118.out.lt).same (og.out.block B11 (fun e => n911.out e.symm)))
      have hd11g := Rg.hid ((hd118.out.below bf.out).only no9.out og.out)
      have hpsg := Rg.hid ((hps8.out.below bf.out).only (fun e => n9P.out e.symm) no9.out og.out)
      have bwg := Rg.hid ((Rg.chain bw8.out bf.out).trans (og.out.bel h9w.out))
      have hszg : Hid (wr.heap.size ≤ wg.heap.size) := by show _ ≤ _; rw [og.out.size]; exact Nat.le_trans hsz8.out bf.out.size
      have hld11 := Rg.hid (hd11g.out.load k11g.out)
      have HT := Rg.hid (HT11'.out wg hszg.out hd11g.out)
      clear hldx HF HT11' hyf bf stg og k98 hd98 k118 hd118 hps8 bw8 hsz8 zz hUV
      go_upto_region 13 with (first | (with_reducible refine is_load (.tmp 9) 29 ?_; refine list_load (.tmp 9) 29 rfl hld11.out ?_) | (go_at_call 14; refine HT.out.mono ?_; rintro e w9 ⟨Y11, rfl, hy11, b9⟩; obtain ⟨w10, st10, k10, o10⟩ := hy11.out.over hd11g.out (k11g.out.below b9.out k11g.out.lt)) | (with_reducible refine is_store (.tmp 9) (.tmp 62) 29 ?_; refine list_store (.tmp 9) (.tmp 62) 29 rfl rfl st10.out ?_))
      have hI2 : Hid (IGuI Kp B9 B11 BP w w6 w10 (Ip.alone m r9).1 (Ip.ticks m r11.1) p0 0) := by
        refine ⟨⟨YF, (kg.out.below b9.out kg.out.lt).same (o10.out.block B9 n911.out), ?_⟩, ⟨Y11, k10.out, ?_⟩, (hpsg.out.below b9.out).only (fun e => n11P.out e.symm) no11.out o10.out, (Rg.chain bwg.out b9.out).trans (o10.out.bel h11w.out), ?_⟩
        · rw [eA.out]; exact (hy9g.out.below b9.out).only no11.out o10.out
        · rw [hm.out, e11.out]; exact hy11.out.only no11.out o10.out
        · rw [o10.out.size]; exact Nat.le_trans hsz.out (Nat.le_trans hszg.out b9.out.size)
      clear hld11 HT hy11 b9 st10 o10 k10 kg hy9g hd11g k11g hpsg bwg
      go_wp2
      go_roundw
      case rel => exact ⟨m, isuc_le hm.out hil, isuc_v hm.out, rfl, hI2⟩
      case measure => exact isuc_meas2 hm.out hil
    · have hi40 : i = 40 := by omega
      subst hi40
      rw [show ((40 : Nat) : Int) = 40 from rfl]
      have f9 : Hid ((Ip.alone 40 r9).1.phase = 5) := hfor2.out.1
      have f11 : Hid ((Ip.ticks 40 r11.1).phase = 4) := hfor2.out.2
      have hq9 : Hid (∀ W2, Rg.Bk B9 X9.toList 29 W2 → W2.cell? ⟨B9, 1, none⟩ = some (.int .i64 5)) := fun W2 k => by rw [← f9.out]; exact iph_at hd9 k
      have hq11 : Hid (∀ W2, Rg.Bk B11 X11.toList 29 W2 → W2.cell? ⟨B11, 1, none⟩ = some (.int .i64 4)) := fun W2 k => by rw [← f11.out]; exact iph_at hd11 k
      have hJ0 : Hid (IGuJ Kp B9 B11 BP w w6 wr X9 X11 (Ip.rnds 0 p0) (26 * 0)) := ⟨k9, k11, hps, bw, hsz⟩
      clear hI hI0 k9 k11 hd9 hd11 hps bw hsz f9 f11 hfor2 okS okC okA
      go_wp2
      go_loopw [65] (fun vn wx => ∃ n : Nat, n ≤ 3 ∧ vn = .int .i64 n ∧ Hid (IGuJ Kp B9 B11 BP w w6 wx X9 X11 (Ip.rnds n p0) (26 * n))) (fun vn _ => 3 - (intOf vn).toNat)
      case atStart => exact ⟨0, Nat.zero_le _, rfl, hJ0⟩
      case round =>
        obtain ⟨n, hn, rfl, hJ⟩ := hrel
        by_cases hnl : n < 3
        · obtain ⟨m, hm⟩ : ∃ m, m = n + 1 := ⟨_, rfl⟩
          replace hm := Rg.hid hm
          have hs := Rg.hid (hsm.out n)
          have hn5 : Hid (n ≤ 3) := hn
          have hn6 : decide ((n : Int) < 3) = true := by simp; omega
          clear hJ0
          go_wp2
          go_loopw [67] (fun vk wx => (vk = .int .i64 0 ∧ Hid (IGuJ Kp B9 B11 BP w w6 wx X9 X11 (Ip.rnds n p0) (26 * n))) ∨ (vk = .int .i64 1 ∧ Hid (IGuJ Kp B9 B11 BP w w6 wx X9 X11 (Ip.hA (Ip.rnds n p0)) (26 * n + 13))) ∨ (vk = .int .i64 2 ∧ Hid (IGuJ Kp B9 B11 BP w w6 wx X9 X11 (Ip.hB (Ip.hA (Ip.rnds n p0))) (26 * n + 26)))) (fun vk _ => 2 - (intOf vk).toNat)
          case atStart => exact .inl ⟨rfl, hJ⟩
          case round =>
            rcases hrel with ⟨rfl, hJ1⟩ | ⟨rfl, hJ1⟩ | ⟨rfl, hJ1⟩
            · have c36 := hJ1.out.ps.w0
              have HH := Rg.hid (ihalf_a hJ1.out.ps hs.out (by have := hn5.out; omega) (hK6.out wr hJ1.out.sz) _ rfl)
              obtain ⟨X, hX⟩ : ∃ X : ByteArray, X = ⟨(Ip.rnds n p0).w0.toArray⟩ := ⟨_, rfl⟩
              obtain ⟨q, hq⟩ : ∃ q : Nat, q = (Ip.rnds n p0).w0.length := ⟨_, rfl⟩
              have hXq : (X.size : Int) = (q : Int) := by rw [hX, hq, isize_bytes]
              rw [← hX] at c36
              rw [← hq] at HH
              clear hX hq hJ
              go_wp2_with (go_at_call 24; refine HH.out.mono ?_; rintro e w7 ⟨rfl, hp7, o7⟩)
              go_roundw
              case rel => exact .inr (.inl ⟨by go_num, hJ1.out.step n9P.out n11P.out hPw.out hp7.out o7.out⟩)
              case measure => simp [intOf]
            · have c37 := hJ1.out.ps.w1
              have HH := Rg.hid (ihalf_b hJ1.out.ps hs.out (by have := hn5.out; omega) (hK6.out wr hJ1.out.sz) _ rfl)
              obtain ⟨X, hX⟩ : ∃ X : ByteArray, X = ⟨(Ip.hA (Ip.rnds n p0)).w1.toArray⟩ := ⟨_, rfl⟩
              obtain ⟨q, hq⟩ : ∃ q : Nat, q = (Ip.hA (Ip.rnds n p0)).w1.length := ⟨_, rfl⟩
              have hXq : (X.size : Int) = (q : Int) := by rw [hX, hq, isize_bytes]
              rw [← hX] at c37
              rw [← hq] at HH
              clear hX hq hJ
              go_wp2_with (go_at_call 24; refine HH.out.mono ?_; rintro e w7 ⟨rfl, hp7, o7⟩)
              go_roundw
              case rel => exact .inr (.inr ⟨by go_num, hJ1.out.step n9P.out n11P.out hPw.out hp7.out o7.out⟩)
              case measure => simp [intOf]
            · have hJ2 : Hid (IGuJ Kp B9 B11 BP w w6 wr X9 X11 (Ip.rnds m p0) (26 * m)) := by
                have h9 := hJ1.out
                rw [show Ip.hB (Ip.hA (Ip.rnds n p0)) = Ip.rnds (n + 1) p0 from rfl, ← hm.out, show 26 * n + 26 = 26 * m by have := hm.out; omega] at h9
                exact h9
              clear hJ1 hJ
              go_wp2
              go_roundw
              case rel => exact ⟨m, isuc_le hm.out hnl, isuc_v hm.out, hJ2⟩
              case measure => exact isuc_meas2 hm.out hnl
        · have hn5 : n = 3 := by omega
          subst hn5
          obtain ⟨kx9, kx11, hps5, bw5, sz5⟩ := hJ.out
          have okb5 := hps5.okb
          obtain ⟨⟨DA, DB, t0, t1, hPB5, _⟩, _⟩ := hps5
          have hldB := Rg.hid hPB5.loadB
          obtain ⟨b5, hb5e⟩ : ∃ b5, b5 = (Ip.rnds 3 p0).b := ⟨_, rfl⟩
          have hph5 : Hid ((Ip.ticks 40 b5).phase = 2) := by show _ = _; rw [hb5e]; exact hend.out
          have hdb := hPB5.hb
          rw [← hb5e] at hdb okb5
          obtain ⟨w8, st8, k8, b8, hd8⟩ := hdb.fresh.box
          obtain ⟨Kq, hKq⟩ : ∃ Kq : Nat → Prop, Kq = fun b => Kp b ∧ b ≠ wr.heap.size := ⟨_, rfl⟩
          rw [← hKq] at hd8
          obtain ⟨B14, hB14⟩ : ∃ B, B = wr.heap.size := ⟨_, rfl⟩
          have no14 : Hid (¬ Kq B14) := by show ¬ _; rw [hKq, hB14]; exact fun h => h.2 rfl
          have hK8 : Hid (∀ W : World, w8.heap.size ≤ W.heap.size → ∀ b, W.heap.size ≤ b → Kq b) := by
            intro W h1 b h2
            rw [hKq]
            have := k8.out.lt
            exact ⟨hK6.out wr sz5 b (by omega), by omega⟩
          have n914 : Hid (B9 ≠ B14) := by show _ ≠ _; have := kx9.lt; omega
          have n1114 : Hid (B11 ≠ B14) := by show _ ≠ _; have := kx11.lt; omega
          have h14w : Hid (w.heap.size ≤ B14) := by show _ ≤ _; rw [hB14]; exact bw5.size
          rw [← hB14] at k8
          have hL0 : Hid (IGuK Kq B9 B11 B14 w w8 w8 X9 X11 (Ip.ticks 0 b5)) := ⟨kx9.below b8.out kx9.lt, kx11.below b8.out kx11.lt, ⟨DB, k8.out, hd8.out⟩, Rg.chain bw5 b8.out, Nat.le_refl _⟩
          replace okb5 := Rg.hid okb5
          replace hb5e := Rg.hid hb5e
          clear hJ hJ0 kx9 kx11 bw5 sz5 hPB5 hdb hd8 k8 b8 hKq hend hsm
          go_upto_region 23 with (first | (with_reducible refine is_load (.tmp 81) 29 ?_; refine list_mload (.tmp 81) 29 rfl hldB.out ?_) | (with_reducible refine is_store (.tmp 14) (.tmp 82) 29 ?_; refine list_store (.tmp 14) (.tmp 82) 29 rfl rfl st8.out ?_))
          rw [← hB14]
          clear hldB st8 hB14
          go_wp2
          go_loopw [83] (fun vi wx => ∃ i : Nat, i ≤ 40 ∧ vi = .int .i64 i ∧ Hid (IGuK Kq B9 B11 B14 w w8 wx X9 X11 (Ip.ticks i b5))) (fun vi _ => 40 - (intOf vi).toNat)
          case atStart => exact ⟨0, Nat.zero_le _, rfl, hL0⟩
          case round =>
            obtain ⟨i, hi, rfl, hL⟩ := hrel
            obtain ⟨q9, q11, ⟨X14, q14, hd14⟩, bwL, szL⟩ := hL.out
            by_cases hil : i < 40
            · have okt := Ip.ok_ticks (by decide) i okb5.out
              have HT := Rg.hid (ihtick hd14 okt.rt (Ip.ok_tick_at okt (by decide)) (hK8.out wr szL))
              have e14 := Rg.hid (Ip.ticks_succ i b5)
              obtain ⟨m, hm⟩ : ∃ m, m = i + 1 := ⟨_, rfl⟩
              replace hm := Rg.hid hm
              obtain ⟨d14, hd14e⟩ : ∃ d, d = Ip.ticks i b5 := ⟨_, rfl⟩
              rw [← hd14e] at hd14 HT
              replace hd14e := Rg.hid hd14e
              replace q9 := Rg.hid q9
              replace q11 := Rg.hid q11
              replace q14 := Rg.hid q14
              replace hd14 := Rg.hid hd14
              replace bwL := Rg.hid bwL
              replace szL := Rg.hid szL
              have hld14 := Rg.hid (hd14.out.load q14.out)
              clear okt hL hL0
              go_upto_region 26 with (first | (with_reducible refine is_load (.tmp 14) 29 ?_; refine list_load (.tmp 14) 29 rfl hld14.out ?_) | (go_at_call 14; refine HT.out.mono ?_; rintro e w9 ⟨Y14, rfl, hy14, b9⟩; obtain ⟨w10, st10, k10, o10⟩ := hy14.out.over hd14.out (q14.out.below b9.out q14.out.lt)) | (with_reducible refine is_store (.tmp 14) (.tmp 88) 29 ?_; refine list_store (.tmp 14) (.tmp 88) 29 rfl rfl st10.out ?_))
              have hL2 : Hid (IGuK Kq B9 B11 B14 w w8 w10 X9 X11 (Ip.ticks m b5)) := by
                refine ⟨(q9.out.below b9.out q9.out.lt).same (o10.out.block B9 n914.out), (q11.out.below b9.out q11.out.lt).same (o10.out.block B11 n1114.out), ⟨Y14, k10.out, ?_⟩, (Rg.chain bwL.out b9.out).trans (o10.out.bel h14w.out), ?_⟩
                · rw [hm.out, e14.out, ← hd14e.out]; exact hy14.out.only no14.out o10.out
                · rw [o10.out.size]; exact Nat.le_trans szL.out b9.out.size
              clear hld14 HT hy14 b9 st10 o10 k10 q9 q11 q14 hd14 bwL
              go_wp2
              go_roundw
              case rel => exact ⟨m, isuc_le hm.out hil, isuc_v hm.out, hL2⟩
              case measure => exact isuc_meas2 hm.out hil
            · have hi40 : i = 40 := by omega
              subst hi40
              have g9 := hq9.out wr q9
              have g11 := hq11.out wr q11
              have g14 : wr.cell? ⟨B14, 1, none⟩ = some (.int .i64 2) := by rw [← hph5.out]; exact iph_at hd14 q14
              have HA := Rg.hid (iawake_any wr)
              replace bwL := Rg.hid bwL
              clear hL hL0 q9 q11 q14 hd14 szL hq9 hq11 hph5
              go_wp2_with (go_at_call 10; refine HA.out.mono ?_; rintro e w9 ⟨rfl, b9⟩)
              go_ret
              exact ⟨rfl, Rg.chain bwL.out b9⟩
set_option maxHeartbeats 1000000 in
set_option maxRecDepth 100000 in
theorem igivesup_long (x : Int) (s : ByteArray) (w : World) (hn2 : (2000 : Int) < (s.size : Int)) (HA : Hid (Calls Tryz.prog 10 #[] w fun e w' => e = .returned (.bool true) ∧ Below w.heap.size w w')) :
    Calls Tryz.prog 6 #[.int .i64 x, .string s] w fun e w' => e = .returned (.bool true) ∧ Below w.heap.size w w' := by
  go_enter Tryz.func6, Tryz.ntmps6
  go_wp2_with (go_at_call 10; refine HA.out.mono ?_; rintro e w9 ⟨rfl, b9⟩)
  go_ret
  exact ⟨rfl, b9⟩
theorem igivesup_walk (x : Int) (s : ByteArray) (w : World) : Calls Tryz.prog 6 #[.int .i64 x, .string s] w fun e w' => e = .returned (.bool true) ∧ Below w.heap.size w w' := by
  by_cases hn : 2000 < s.size
  · exact igivesup_long x s w (by omega) (iawake_any w)
  · exact igivesup_core x s ⟨#[]⟩ w rfl (by omega)
end Go.Proofs.YtlclfkogbfigbaaGreat
