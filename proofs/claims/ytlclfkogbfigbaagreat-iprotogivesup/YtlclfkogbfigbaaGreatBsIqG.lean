/-
  Layer 16: IprotoRight's walk.
-/
import Derived.Test.YtlclfkogbfigbaaGreatCuBN
namespace Go.Proofs.YtlclfkogbfigbaaGreat
open Go.RowKit
/-- what stands between two rounds -/
structure IRtI (Kp : Nat → Prop) (BD : Nat) (w wD wr : World) (i : Nat) : Prop where
  dr : ∃ d CS, Rg.Bk BD (Array.toList CS) 29 wr ∧ IDH Kp wr d CS ∧ Ip.Ok (5000 * i) i d ∧ Ip.small d
  bw : Below w.heap.size w wr
  sz : wD.heap.size ≤ wr.heap.size
theorem iok_send {n i : Nat} {d : Gp.Dr} (h : Ip.Ok (5000 * i) i d) (hq : Ip.small d) (x : Gp.Pc) (hn : n = i + 1) : Ip.Ok (5000 * n) n (Ip.send d x).1 ∧ Ip.small (Ip.send d x).1 := ⟨(h.send x).mono (by omega) (by omega), Ip.send_small hq x⟩
theorem iok_tick {n i : Nat} {d : Gp.Dr} (h : Ip.Ok (5000 * i) i d) (hq : Ip.small d) (hn : n = i + 1) (hi : i ≤ 100) : Ip.Ok (5000 * n) n (Ip.tick d).1 ∧ Ip.small (Ip.tick d).1 := ⟨(h.tick (by omega)).mono (by omega) (by omega), Ip.tick_small hq⟩
theorem iok_close {n i : Nat} {d : Gp.Dr} (h : Ip.Ok (5000 * i) i d) (hq : Ip.small d) (hn : n = i + 1) : Ip.Ok (5000 * n) n (Ip.close d).1 ∧ Ip.small (Ip.close d).1 := ⟨h.close.mono (by omega) (by omega), Ip.close_small hq⟩
theorem iok_feed {n i : Nat} {d : Gp.Dr} (h : Ip.Ok (5000 * i) i d) (hq : Ip.small d) (hn : n = i + 1) (hi : i ≤ 100) (s : List UInt8) (hs : s.length ≤ 5000) : Ip.Ok (5000 * n) n (Ip.feed d s).1 ∧ Ip.small (Ip.feed d s).1 := ⟨(h.feed s (by omega)).1.mono (by omega) (by omega), (Ip.feed_small hq s).1⟩
theorem iok_at {i : Nat} {d : Gp.Dr} (h : Ip.Ok (5000 * i) i d) (hi : i ≤ 100) : d.at_ + d.buf.length ≤ 1099511627776 ∧ ∀ s : List UInt8, s.length ≤ 5000 → d.at_ + d.buf.length + s.length ≤ 1099511627776 ∧ d.buf.length + s.length ≤ 40000 := by
  have h1 := h.tot
  have h2 := h.buf
  exact ⟨by omega, fun s hs => ⟨by omega, by omega⟩⟩
set_option maxHeartbeats 4000000 in
set_option maxRecDepth 100000 in
theorem iright_core (x : Int) (n cap : Nat) (l : List Ip.Op6) (a : Option Addr) (w : World)
    (hnl : Hid (n = l.length)) (hn : decide ((100 : Int) < (n : Int)) = false) (hnn : Hid (n ≤ 100)) (hrow : Hid (ERow ioE w a l)) :
    Calls Tryz.prog 5 #[.int .i64 x, .slice a n cap] w fun e w' => e = .returned (.bool true) ∧ Below w.heap.size w w' := by
  have HG := Rg.hid (ibegun_any x x w)
  go_enter Tryz.func5, Tryz.ntmps5
  go_upto_region 4 with (first | (go_at_call 23; refine HG.out.mono ?_; rintro e w1 ⟨CA, CB, za, zb, ra, rb, rfl, hD1, b1, hok⟩; obtain ⟨w2, st2, b2, hP2⟩ := ipair_box (w0 := Ip.sync (Ip.begin_ false zb rb)) (w1 := Ip.sync (Ip.begin_ true za ra)) (fun Kp => (hD1.out Kp).1) (fun Kp => (hD1.out Kp).2)) | (with_reducible refine is_store (.tmp 5) (.tmp 18) 54 ?_; refine list_store (.tmp 5) (.tmp 18) 54 rfl rfl st2.out ?_))
  obtain ⟨BP, hBP⟩ : ∃ B, B = w1.heap.size := ⟨_, rfl⟩
  rw [← hBP] at hP2 ⊢
  have hldP := Rg.hid ((hP2.out (fun b => b ≠ BP) (fun h => h rfl)).loadA)
  have b02 := Rg.hid (Rg.chain b1.out b2.out)
  obtain ⟨BD, hBD⟩ : ∃ B, B = w2.heap.size := ⟨_, rfl⟩
  obtain ⟨Kp, hKp⟩ : ∃ Kp : Nat → Prop, Kp = fun b => b ≠ BD := ⟨_, rfl⟩
  have hA2 := Rg.hid ((hD1.out Kp).1.below b2.out)
  obtain ⟨w3, st3, k3, b3, hA3⟩ := hA2.out.box
  rw [← hBD] at k3
  have hnD : Hid (¬ Kp BD) := by show ¬ _; rw [hKp]; exact fun h => h rfl
  have hK3 : Hid (∀ W : World, w3.heap.size ≤ W.heap.size → ∀ b, W.heap.size ≤ b → Kp b) := by
    intro W h1 b h2
    rw [hKp]
    have := k3.out.lt
    show b ≠ BD
    omega
  have hDw : Hid (w.heap.size ≤ BD) := by show _ ≤ _; rw [hBD]; exact b02.out.size
  have hI0 : Hid (IRtI Kp BD w w3 w3 0) := ⟨⟨_, CA, k3.out, hA3.out, Ip.Ok.begin_ true hok.out.1 hok.out.2.2.1, Ip.begin_small true za ra⟩, Rg.chain b02.out b3.out, Nat.le_refl _⟩
  clear hKp hBP HG hD1 b1 st2 b2 hP2 hok b02 k3 b3 hA3
  go_upto_region 7 with (first | (with_reducible refine is_load (.tmp 23) 29 ?_; refine list_mload (.tmp 23) 29 rfl hldP.out ?_) | (with_reducible refine is_store (.tmp 7) (.tmp 24) 29 ?_; refine list_store (.tmp 7) (.tmp 24) 29 rfl rfl st3.out ?_))
  rw [← hBD]
  replace hBD := Rg.hid hBD
  clear hldP st3 hA2 hBD
  go_wp2
  go_loopw [27] (fun vi wr => ∃ i : Nat, i ≤ n ∧ vi = .int .i64 i ∧ Hid (IRtI Kp BD w w3 wr i)) (fun vi _ => n - (intOf vi).toNat)
  case atStart => exact ⟨0, Nat.zero_le _, rfl, hI0⟩
  case round =>
    obtain ⟨i, hin, rfl, hI⟩ := hrel
    obtain ⟨⟨d, CS, k, hd, hok, hq⟩, bw, hsz⟩ := hI.out
    by_cases hil : i < n
    · have hil2 : i < l.length := by rw [← hnl.out]; exact hil
      obtain ⟨b1, o1, rfl, _, _, y1⟩ := (hrow.out.below bw).cell hil2
      replace y1 := io_at y1
      generalize l[i] = o at y1
      obtain ⟨ok, oy, on, ob, os⟩ := o
      obtain ⟨c0, c1, c2, c3, c4⟩ := y1
      have em : ioE.m = 5 := rfl
      rw [em] at c0 c1 c2 c3 c4
      dsimp only at c0 c1 c2 c3 c4
      have iz0 : (0 : Int) ≤ (i : Int) := by omega
      have iz1 : (i : Int) < (n : Int) := by omega
      have hi100 : i ≤ 100 := by have := hnn.out; omega
      have hat := iok_at hok hi100
      have hi1 : Hid (i ≤ 100) := hi100
      obtain ⟨m, hm⟩ : ∃ m, m = i + 1 := ⟨_, rfl⟩
      have hw1 : Hid (wrap64 ((i : Int) + 1) = (m : Int)) := isuc_wrap hm hi100
      replace hm := Rg.hid hm
      replace k := Rg.hid k
      replace hd := Rg.hid hd
      replace hok := Rg.hid hok
      replace hq := Rg.hid hq
      replace bw := Rg.hid bw
      replace hsz := Rg.hid hsz
      replace hat := Rg.hid hat
      have kO : Hid (Rg.Bk wr.heap.size [.int .i64 ok, .int .i64 oy, .int .i64 on, .int .i64 ob, .string os] 58 (wr.alloc (.cells #[.int .i64 ok, .int .i64 oy, .int .i64 on, .int .i64 ob, .string os] 58))) := Rg.Bk.new rfl
      have bO := Rg.hid (Rg.al1 wr (.cells #[.int .i64 ok, .int .i64 oy, .int .i64 on, .int .i64 ob, .string os] 58))
      clear em hi100 hI hI0 hil2
      go_upto_region 10 with fail
      generalize World.alloc _ _ = wO at *
      obtain ⟨BO, hBO⟩ : ∃ B, B = wr.heap.size := ⟨_, rfl⟩
      rw [← hBO] at kO ⊢
      replace hBO := Rg.hid hBO
      have f0 : wO.cell? ⟨BO, 0, none⟩ = some (.int .i64 ok) := kO.out.cell 0
      have f3 : wO.cell? ⟨BO, 3, none⟩ = some (.int .i64 ob) := kO.out.cell 3
      have f4 : wO.cell? ⟨BO, 4, none⟩ = some (.string os) := kO.out.cell 4
      have kD := Rg.hid (k.out.below bO.out k.out.lt)
      have hdO := Rg.hid (hd.out.below bO.out)
      have bwO := Rg.hid (Rg.chain bw.out bO.out)
      have hszO : Hid (w3.heap.size ≤ wO.heap.size) := Nat.le_trans hsz.out bO.out.size
      have hld := Rg.hid (hdO.out.load kD.out)
      have HA : Hid (∀ W, Below wO.heap.size wO W → Calls Tryz.prog 10 #[] W fun e w' => e = .returned (.bool true) ∧ Below W.heap.size W w') := fun W _ => iawake_any W
      clear hBO k hd bw hsz bO c0 c1 c2 c3 c4
      by_cases hS : os.size ≤ 5000
      · have dS : decide ((5000 : Int) < (os.size : Int)) = false := by simp; omega
        have dS2 : ¬ (5000 : Int) < (os.size : Int) := by omega
        replace hS := Rg.hid hS
        go_upto_region 12 with fail
        by_cases e1 : ok = 1
        · subst e1
          have HC := Rg.hid (ihtick hdO.out hok.out.rt hat.out.1 (hK3.out wO hszO.out))
          have hok5 := iok_tick hok.out hq.out hm.out hi1.out
          obtain ⟨d5, hd5e⟩ : ∃ d5, d5 = (Ip.tick d).1 := ⟨_, rfl⟩
          replace hok5 : Hid (Ip.Ok (5000 * m) m d5 ∧ Ip.small d5) := by show _ ∧ _; rw [hd5e]; exact hok5
          replace hd5e := Rg.hid hd5e
          clear hok hq hat
          go_upto_region 20 with (first | (with_reducible refine is_load (.tmp 7) 29 ?_; refine list_load (.tmp 7) 29 rfl hld.out ?_) | (go_at_call 14; refine HC.out.mono ?_; rintro e w5 ⟨C5, rfl, hd5, b5⟩; obtain ⟨w6, st6, k6, o6⟩ := hd5.out.over hdO.out (kD.out.below b5.out kD.out.lt)) | (with_reducible refine is_store (.tmp 7) (.tmp 51) 29 ?_; refine list_store (.tmp 7) (.tmp 51) 29 rfl rfl st6.out ?_))
          have hd6 : Hid (IDH Kp w6 d5 C5) := by show IDH _ _ _ _; rw [hd5e.out]; exact hd5.out.only hnD.out o6.out
          have hld6 := Rg.hid (hd6.out.load k6.out)
          have HR := Rg.hid (ihright hd6.out hok5.out.1.rt)
          have hs6 : Hid (w3.heap.size ≤ w6.heap.size) := by show _ ≤ _; rw [o6.out.size]; exact Nat.le_trans hszO.out b5.out.size
          have bw6 := Rg.hid ((Rg.chain bwO.out b5.out).trans (o6.out.bel hDw.out))
          obtain ⟨X, hX⟩ : ∃ X : ByteArray, X = ⟨d5.buf.toArray⟩ := ⟨_, rfl⟩
          have hbz : ¬ (4105 : Int) < (X.size : Int) := by rw [hX, isize_bytes]; have := hok5.out.1.buf; omega
          replace hX := Rg.hid hX
          have hbz2 : decide ((4105 : Int) < (X.size : Int)) = false := by simpa using hbz
          obtain ⟨Z, hZ⟩ : ∃ Z, Z = d5.ahead.length := ⟨_, rfl⟩
          have haz : ¬ (15 : Int) < (Z : Int) := by rw [hZ]; have := Ip.ok_len (by decide) hok5.out.1.rt.1.ah; omega
          have haz2 : decide ((15 : Int) < (Z : Int)) = false := by simpa using haz
          replace hZ := Rg.hid hZ
          clear hd5 b5 st6 o6 hld HC HA hszO bwO kO kD f0 f3 f4 hd5e hdO
          go_wp2_with (first | (with_reducible refine is_load (.tmp 7) 29 ?_; refine list_load (.tmp 7) 29 rfl hld6.out ?_) | (go_at_call 21; refine HR.out.mono ?_; rintro e w7 ⟨rfl, b7⟩; have c12 := idh_buf hd6.out (k6.out.below b7 k6.out.lt); rw [← hX.out] at c12; obtain ⟨a11, e11, c11⟩ := idh_ahead hd6.out (k6.out.below b7 k6.out.lt); rw [← hZ.out] at c11))
          go_roundw
          case rel => exact ⟨m, isuc_le hm.out hil, by rw [hw1.out], ⟨⟨d5, C5, k6.out.below b7 k6.out.lt, hd6.out.below b7, hok5.out.1, hok5.out.2⟩, Rg.chain bw6.out b7, Nat.le_trans hs6.out b7.size⟩⟩
          case measure => rw [hw1.out]; exact isuc_meas hm.out hil
        by_cases e2 : ok = 2
        · subst e2
          have HC := Rg.hid (ihsend hdO.out hok.out.rt ⟨ob, os⟩ (by have := hok.out.qu; have := hi1.out; omega) (hK3.out wO hszO.out))
          replace HC : Hid (Calls Tryz.prog 17 #[.agg CS, .agg #[.int .i64 ob, .string os]] wO fun e w' => IHPost Kp wO (Ip.send d ⟨ob, os⟩) e w') := HC
          have hok5 := iok_send hok.out hq.out ⟨ob, os⟩ hm.out
          obtain ⟨d5, hd5e⟩ : ∃ d5, d5 = (Ip.send d ⟨ob, os⟩).1 := ⟨_, rfl⟩
          replace hok5 : Hid (Ip.Ok (5000 * m) m d5 ∧ Ip.small d5) := by show _ ∧ _; rw [hd5e]; exact hok5
          replace hd5e := Rg.hid hd5e
          clear hok hq hat
          go_upto_region 20 with (first | (with_reducible refine is_load (.tmp 7) 29 ?_; refine list_load (.tmp 7) 29 rfl hld.out ?_) | (go_at_call 17; refine HC.out.mono ?_; rintro e w5 ⟨C5, rfl, hd5, b5⟩; obtain ⟨w6, st6, k6, o6⟩ := hd5.out.over hdO.out (kD.out.below b5.out kD.out.lt)) | (with_reducible refine is_store (.tmp 7) (.tmp 63) 29 ?_; refine list_store (.tmp 7) (.tmp 63) 29 rfl rfl st6.out ?_))
          have hd6 : Hid (IDH Kp w6 d5 C5) := by show IDH _ _ _ _; rw [hd5e.out]; exact hd5.out.only hnD.out o6.out
          have hld6 := Rg.hid (hd6.out.load k6.out)
          have HR := Rg.hid (ihright hd6.out hok5.out.1.rt)
          have hs6 : Hid (w3.heap.size ≤ w6.heap.size) := by show _ ≤ _; rw [o6.out.size]; exact Nat.le_trans hszO.out b5.out.size
          have bw6 := Rg.hid ((Rg.chain bwO.out b5.out).trans (o6.out.bel hDw.out))
          obtain ⟨X, hX⟩ : ∃ X : ByteArray, X = ⟨d5.buf.toArray⟩ := ⟨_, rfl⟩
          have hbz : ¬ (4105 : Int) < (X.size : Int) := by rw [hX, isize_bytes]; have := hok5.out.1.buf; omega
          replace hX := Rg.hid hX
          have hbz2 : decide ((4105 : Int) < (X.size : Int)) = false := by simpa using hbz
          obtain ⟨Z, hZ⟩ : ∃ Z, Z = d5.ahead.length := ⟨_, rfl⟩
          have haz : ¬ (15 : Int) < (Z : Int) := by rw [hZ]; have := Ip.ok_len (by decide) hok5.out.1.rt.1.ah; omega
          have haz2 : decide ((15 : Int) < (Z : Int)) = false := by simpa using haz
          replace hZ := Rg.hid hZ
          clear hd5 b5 st6 o6 hld HC HA hszO bwO kO kD f0 f3 f4 hd5e hdO
          go_wp2_with (first | (with_reducible refine is_load (.tmp 7) 29 ?_; refine list_load (.tmp 7) 29 rfl hld6.out ?_) | (go_at_call 21; refine HR.out.mono ?_; rintro e w7 ⟨rfl, b7⟩; have c12 := idh_buf hd6.out (k6.out.below b7 k6.out.lt); rw [← hX.out] at c12; obtain ⟨a11, e11, c11⟩ := idh_ahead hd6.out (k6.out.below b7 k6.out.lt); rw [← hZ.out] at c11))
          go_roundw
          case rel => exact ⟨m, isuc_le hm.out hil, by rw [hw1.out], ⟨⟨d5, C5, k6.out.below b7 k6.out.lt, hd6.out.below b7, hok5.out.1, hok5.out.2⟩, Rg.chain bw6.out b7, Nat.le_trans hs6.out b7.size⟩⟩
          case measure => rw [hw1.out]; exact isuc_meas hm.out hil
        by_cases e3 : ok = 3
        · subst e3
          have HC := Rg.hid (ihclose hdO.out hok.out.rt (hK3.out wO hszO.out))
          have hok5 := iok_close hok.out hq.out hm.out
          obtain ⟨d5, hd5e⟩ : ∃ d5, d5 = (Ip.close d).1 := ⟨_, rfl⟩
          replace hok5 : Hid (Ip.Ok (5000 * m) m d5 ∧ Ip.small d5) := by show _ ∧ _; rw [hd5e]; exact hok5
          replace hd5e := Rg.hid hd5e
          clear hok hq hat
          go_upto_region 20 with (first | (with_reducible refine is_load (.tmp 7) 29 ?_; refine list_load (.tmp 7) 29 rfl hld.out ?_) | (go_at_call 19; refine HC.out.mono ?_; rintro e w5 ⟨C5, rfl, hd5, b5⟩; obtain ⟨w6, st6, k6, o6⟩ := hd5.out.over hdO.out (kD.out.below b5.out kD.out.lt)) | (with_reducible refine is_store (.tmp 7) (.tmp 70) 29 ?_; refine list_store (.tmp 7) (.tmp 70) 29 rfl rfl st6.out ?_))
          have hd6 : Hid (IDH Kp w6 d5 C5) := by show IDH _ _ _ _; rw [hd5e.out]; exact hd5.out.only hnD.out o6.out
          have hld6 := Rg.hid (hd6.out.load k6.out)
          have HR := Rg.hid (ihright hd6.out hok5.out.1.rt)
          have hs6 : Hid (w3.heap.size ≤ w6.heap.size) := by show _ ≤ _; rw [o6.out.size]; exact Nat.le_trans hszO.out b5.out.size
          have bw6 := Rg.hid ((Rg.chain bwO.out b5.out).trans (o6.out.bel hDw.out))
          obtain ⟨X, hX⟩ : ∃ X : ByteArray, X = ⟨d5.buf.toArray⟩ := ⟨_, rfl⟩
          have hbz : ¬ (4105 : Int) < (X.size : Int) := by rw [hX, isize_bytes]; have := hok5.out.1.buf; omega
          replace hX := Rg.hid hX
          have hbz2 : decide ((4105 : Int) < (X.size : Int)) = false := by simpa using hbz
          obtain ⟨Z, hZ⟩ : ∃ Z, Z = d5.ahead.length := ⟨_, rfl⟩
          have haz : ¬ (15 : Int) < (Z : Int) := by rw [hZ]; have := Ip.ok_len (by decide) hok5.out.1.rt.1.ah; omega
          have haz2 : decide ((15 : Int) < (Z : Int)) = false := by simpa using haz
          replace hZ := Rg.hid hZ
          clear hd5 b5 st6 o6 hld HC HA hszO bwO kO kD f0 f3 f4 hd5e hdO
          go_wp2_with (first | (with_reducible refine is_load (.tmp 7) 29 ?_; refine list_load (.tmp 7) 29 rfl hld6.out ?_) | (go_at_call 21; refine HR.out.mono ?_; rintro e w7 ⟨rfl, b7⟩; have c12 := idh_buf hd6.out (k6.out.below b7 k6.out.lt); rw [← hX.out] at c12; obtain ⟨a11, e11, c11⟩ := idh_ahead hd6.out (k6.out.below b7 k6.out.lt); rw [← hZ.out] at c11))
          go_roundw
          case rel => exact ⟨m, isuc_le hm.out hil, by rw [hw1.out], ⟨⟨d5, C5, k6.out.below b7 k6.out.lt, hd6.out.below b7, hok5.out.1, hok5.out.2⟩, Rg.chain bw6.out b7, Nat.le_trans hs6.out b7.size⟩⟩
          case measure => rw [hw1.out]; exact isuc_meas hm.out hil
        have d1 : (ok == 1) = false := by simpa using e1
        have d2 : (ok == 2) = false := by simpa using e2
        have d3 : (ok == 3) = false := by simpa using e3
        have HC := Rg.hid (ihfeed hdO.out hok.out.rt os.data.toList (hat.out.2 _ (by have := hS.out; exact this)).1 (hat.out.2 _ (by have := hS.out; exact this)).2 (fun x hx => Nat.le_trans ((Ip.feed_small hq.out _).2 x hx) (by decide)) (hK3.out wO hszO.out))
        replace HC : Hid (Calls Tryz.prog 12 #[.agg CS, .string os] wO fun e w' => IHFPost Kp wO (Ip.feed d os.data.toList) e w') := HC
        have hok5 := iok_feed hok.out hq.out hm.out hi1.out os.data.toList (by have := hS.out; exact this)
        obtain ⟨d5, hd5e⟩ : ∃ d5, d5 = (Ip.feed d os.data.toList).1 := ⟨_, rfl⟩
        replace hok5 : Hid (Ip.Ok (5000 * m) m d5 ∧ Ip.small d5) := by show _ ∧ _; rw [hd5e]; exact hok5
        replace hd5e := Rg.hid hd5e
        clear hok hq hat
        go_upto_region 20 with (first | (with_reducible refine is_load (.tmp 7) 29 ?_; refine list_load (.tmp 7) 29 rfl hld.out ?_) | (go_at_call 12; refine HC.out.mono ?_; rintro e w5 ⟨C5, a5, l5, rfl, hd5, b5, _⟩; obtain ⟨w6, st6, k6, o6⟩ := hd5.out.over hdO.out (kD.out.below b5.out kD.out.lt)) | (with_reducible refine is_store (.tmp 7) (.tmp 43) 29 ?_; refine list_store (.tmp 7) (.tmp 43) 29 rfl rfl st6.out ?_))
        have hd6 : Hid (IDH Kp w6 d5 C5) := by show IDH _ _ _ _; rw [hd5e.out]; exact hd5.out.only hnD.out o6.out
        have hld6 := Rg.hid (hd6.out.load k6.out)
        have HR := Rg.hid (ihright hd6.out hok5.out.1.rt)
        have hs6 : Hid (w3.heap.size ≤ w6.heap.size) := by show _ ≤ _; rw [o6.out.size]; exact Nat.le_trans hszO.out b5.out.size
        have bw6 := Rg.hid ((Rg.chain bwO.out b5.out).trans (o6.out.bel hDw.out))
        obtain ⟨X, hX⟩ : ∃ X : ByteArray, X = ⟨d5.buf.toArray⟩ := ⟨_, rfl⟩
        have hbz : ¬ (4105 : Int) < (X.size : Int) := by rw [hX, isize_bytes]; have := hok5.out.1.buf; omega
        replace hX := Rg.hid hX
        have hbz2 : decide ((4105 : Int) < (X.size : Int)) = false := by simpa using hbz
        obtain ⟨Z, hZ⟩ : ∃ Z, Z = d5.ahead.length := ⟨_, rfl⟩
        have haz : ¬ (15 : Int) < (Z : Int) := by rw [hZ]; have := Ip.ok_len (by decide) hok5.out.1.rt.1.ah; omega
        have haz2 : decide ((15 : Int) < (Z : Int)) = false := by simpa using haz
        replace hZ := Rg.hid hZ
        clear hd5 b5 st6 o6 hld HC HA hszO bwO kO kD f0 f3 f4 hd5e hdO
        go_wp2_with (first | (with_reducible refine is_load (.tmp 7) 29 ?_; refine list_load (.tmp 7) 29 rfl hld6.out ?_) | (go_at_call 21; refine HR.out.mono ?_; rintro e w7 ⟨rfl, b7⟩; have c12 := idh_buf hd6.out (k6.out.below b7 k6.out.lt); rw [← hX.out] at c12; obtain ⟨a11, e11, c11⟩ := idh_ahead hd6.out (k6.out.below b7 k6.out.lt); rw [← hZ.out] at c11))
        go_roundw
        case rel => exact ⟨m, isuc_le hm.out hil, by rw [hw1.out], ⟨⟨d5, C5, k6.out.below b7 k6.out.lt, hd6.out.below b7, hok5.out.1, hok5.out.2⟩, Rg.chain bw6.out b7, Nat.le_trans hs6.out b7.size⟩⟩
        case measure => rw [hw1.out]; exact isuc_meas hm.out hil
      · have dS : decide ((5000 : Int) < (os.size : Int)) = true := by simp; omega
        have dS2 : (5000 : Int) < (os.size : Int) := by omega
        go_wp2_with (go_at_call 10; refine (HA.out _ (Below.refl _ _)).mono ?_; rintro e w9 ⟨rfl, b9⟩)
        go_ret
        exact ⟨rfl, Rg.chain bwO.out b9⟩
    · have hie : i = n := by omega
      subst hie
      have HA : Hid (Calls Tryz.prog 10 #[] wr fun e w' => e = .returned (.bool true) ∧ Below wr.heap.size wr w') := iawake_any wr
      replace bw := Rg.hid bw
      clear hI hI0 k hd hok hq hsz
      go_wp2_with (go_at_call 10; refine HA.out.mono ?_; rintro e w9 ⟨rfl, b9⟩)
      go_ret
      exact ⟨rfl, Rg.chain bw.out b9⟩
set_option maxHeartbeats 1000000 in
set_option maxRecDepth 100000 in
theorem iright_long (x : Int) (n cap : Nat) (a : Option Addr) (w : World) (hn : decide ((100 : Int) < (n : Int)) = true) (HA : Hid (Calls Tryz.prog 10 #[] w fun e w' => e = .returned (.bool true) ∧ Below w.heap.size w w')) :
    Calls Tryz.prog 5 #[.int .i64 x, .slice a n cap] w fun e w' => e = .returned (.bool true) ∧ Below w.heap.size w w' := by
  go_enter Tryz.func5, Tryz.ntmps5
  go_wp2_with (go_at_call 10; refine HA.out.mono ?_; rintro e w9 ⟨rfl, b9⟩)
  go_ret
  exact ⟨rfl, b9⟩
theorem iright_walk (x : Int) (a : Option Addr) (cap : Nat) (l : List Ip.Op6) (w : World) (row : ERow ioE w a l) :
    Calls Tryz.prog 5 #[.int .i64 x, .slice a l.length cap] w fun e w' => e = .returned (.bool true) ∧ Below w.heap.size w w' := by
  by_cases hn : 100 < l.length
  · exact iright_long x l.length cap a w (by simp; omega) (iawake_any w)
  · exact iright_core x l.length cap l a w rfl (by simp; omega) (by show _ ≤ _; omega) row
end Go.Proofs.YtlclfkogbfigbaaGreat
