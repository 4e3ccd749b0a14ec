/-
  Layer 15: GprotoRight's walk.
-/
import Derived.Test.YtfiffbohhhehkaaBsPh0
namespace Go.Proofs.Ytfiffbohhhehkaa
open Go.RowKit
/-- a pair laid in a new block -/
theorem pair_box {w : World} {CA CB : Array Value} {a b : Gp.Dr} {w0 w1 : List UInt8} (hA : ∀ Kp : Nat → Prop, DH Kp w a CA) (hB : ∀ Kp : Nat → Prop, DH Kp w b CB) : ∃ W', Hid ((storeVar 38 ⟨w.heap.size, 0, none⟩ (.agg (PC CA CB (bR w0 w1)).toArray)).run Try.prog (w.alloc (.cells #[.int .i64 0, .int .i64 0, .bool false, .int .i64 0, .int .i64 0, .int .i64 0, .int .i64 0, .int .i64 0, .int .i64 0, .slice none 0 0, .int .i64 0, .slice none 0 0, .string ⟨#[]⟩, .int .i64 0, .slice none 0 0, .int .i64 0, .int .i64 0, .slice none 0 0, .int .i64 0, .int .i64 0, .bool false, .int .i64 0, .int .i64 0, .int .i64 0, .int .i64 0, .int .i64 0, .int .i64 0, .slice none 0 0, .int .i64 0, .slice none 0 0, .string ⟨#[]⟩, .int .i64 0, .slice none 0 0, .int .i64 0, .int .i64 0, .slice none 0 0, .string ⟨#[]⟩, .string ⟨#[]⟩, .string ⟨#[]⟩, .string ⟨#[]⟩, .string ⟨#[]⟩, .string ⟨#[]⟩, .int .i64 0, .int .i64 0, .slice none 0 0, .slice none 0 0, .bool false] 38)) = .ok () W') ∧ Hid (Below w.heap.size w W') ∧ Hid (∀ Kp : Nat → Prop, ¬ Kp w.heap.size → PB Kp w.heap.size W' a b CA CB (bR w0 w1)) := by
  have hsz : (PC CA CB (bR w0 w1)).toArray.size = 47 := by
    unfold PC bR
    simp [(hA fun _ => True).size, (hB fun _ => True).size]
  have hone : (PC CA CB (bR w0 w1)).toArray.all (·.oneCell') = true := by
    have h1 := (hA fun _ => True).one
    have h2 := (hB fun _ => True).one
    unfold PC bR
    simp [Value.oneCell'] at *
    exact ⟨h1, h2⟩
  have k : Rg.Bk w.heap.size [.int .i64 0, .int .i64 0, .bool false, .int .i64 0, .int .i64 0, .int .i64 0, .int .i64 0, .int .i64 0, .int .i64 0, .slice none 0 0, .int .i64 0, .slice none 0 0, .string ⟨#[]⟩, .int .i64 0, .slice none 0 0, .int .i64 0, .int .i64 0, .slice none 0 0, .int .i64 0, .int .i64 0, .bool false, .int .i64 0, .int .i64 0, .int .i64 0, .int .i64 0, .int .i64 0, .int .i64 0, .slice none 0 0, .int .i64 0, .slice none 0 0, .string ⟨#[]⟩, .int .i64 0, .slice none 0 0, .int .i64 0, .int .i64 0, .slice none 0 0, .string ⟨#[]⟩, .string ⟨#[]⟩, .string ⟨#[]⟩, .string ⟨#[]⟩, .string ⟨#[]⟩, .string ⟨#[]⟩, .int .i64 0, .int .i64 0, .slice none 0 0, .slice none 0 0, .bool false] 38 (w.alloc (.cells #[.int .i64 0, .int .i64 0, .bool false, .int .i64 0, .int .i64 0, .int .i64 0, .int .i64 0, .int .i64 0, .int .i64 0, .slice none 0 0, .int .i64 0, .slice none 0 0, .string ⟨#[]⟩, .int .i64 0, .slice none 0 0, .int .i64 0, .int .i64 0, .slice none 0 0, .int .i64 0, .int .i64 0, .bool false, .int .i64 0, .int .i64 0, .int .i64 0, .int .i64 0, .int .i64 0, .int .i64 0, .slice none 0 0, .int .i64 0, .slice none 0 0, .string ⟨#[]⟩, .int .i64 0, .slice none 0 0, .int .i64 0, .int .i64 0, .slice none 0 0, .string ⟨#[]⟩, .string ⟨#[]⟩, .string ⟨#[]⟩, .string ⟨#[]⟩, .string ⟨#[]⟩, .string ⟨#[]⟩, .int .i64 0, .int .i64 0, .slice none 0 0, .slice none 0 0, .bool false] 38)) := Rg.Bk.new rfl
  obtain ⟨W', h1, h2, h3⟩ := Rg.row_storeVar (P := Try.prog) (t := 38) (CS := (PC CA CB (bR w0 w1)).toArray) k (by rw [hsz]; exact info_pair) (by rw [hsz]; rfl) hone
  have hb : Below w.heap.size w W' := (Rg.al1 _ _).trans (h3.bel (Nat.le_refl _))
  exact ⟨W', h1, hb, fun Kp hn => ⟨h2, (hA Kp).below hb, (hB Kp).below hb, hn⟩⟩
/-- what stands between two rounds -/
structure RtI (Kp : Nat → Prop) (BD : Nat) (w wD wr : World) (i : Nat) : Prop where
  dr : ∃ d CS, Rg.Bk BD (Array.toList CS) 31 wr ∧ DH Kp wr d CS ∧ Gp.Ok (5000 * i) d ∧ d.queue.length ≤ i
  bw : Below w.heap.size w wr
  sz : wD.heap.size ≤ wr.heap.size
theorem ok_send {n i : Nat} {d : Gp.Dr} (h : Gp.Ok (5000 * i) d) (hq : d.queue.length ≤ i) (x : Gp.Pc) (_hn : n = i + 1) : Gp.Ok (5000 * n) (Gp.send d x).1 ∧ (Gp.send d x).1.queue.length ≤ n := ⟨(h.send x).mono (by omega), by have := Gp.q_send d x; omega⟩
theorem ok_tick {n i : Nat} {d : Gp.Dr} (h : Gp.Ok (5000 * i) d) (hq : d.queue.length ≤ i) (hn : n = i + 1) (hi : i ≤ 100) : Gp.Ok (5000 * n) (Gp.tick d).1 ∧ (Gp.tick d).1.queue.length ≤ n := ⟨(h.tick (by omega)).mono (by omega), by rw [Gp.q_tick]; omega⟩
theorem ok_close {n i : Nat} {d : Gp.Dr} (h : Gp.Ok (5000 * i) d) (hq : d.queue.length ≤ i) (hn : n = i + 1) : Gp.Ok (5000 * n) (Gp.close d).1 ∧ (Gp.close d).1.queue.length ≤ n := ⟨h.close.mono (by omega), by rw [Gp.q_close]; omega⟩
theorem ok_feed {n i : Nat} {d : Gp.Dr} (h : Gp.Ok (5000 * i) d) (hq : d.queue.length ≤ i) (hn : n = i + 1) (hi : i ≤ 100) (s : List UInt8) (hs : s.length ≤ 5000) : Gp.Ok (5000 * n) (Gp.feed d s).1 ∧ (Gp.feed d s).1.queue.length ≤ n := ⟨(h.feed s (by omega)).mono (by omega), by have := Gp.q_feed d s; omega⟩
theorem ok_at {i : Nat} {d : Gp.Dr} (h : Gp.Ok (5000 * i) d) (hi : i ≤ 100) : d.at_ + d.buf.length ≤ 1099511627776 ∧ ∀ s : List UInt8, s.length ≤ 5000 → d.at_ + d.buf.length + s.length ≤ 1099511627776 ∧ d.buf.length + s.length ≤ 40000 := by
  have h1 := h.tot
  have h2 := h.buf
  exact ⟨by omega, fun s hs => ⟨by omega, by omega⟩⟩
theorem suc_wrap {i m : Nat} (h : m = i + 1) (hi : i ≤ 100) : wrap64 ((i : Int) + 1) = (m : Int) := by subst h; unfold wrap64; omega
theorem suc_le {i m n : Nat} (h : m = i + 1) (hi : i < n) : m ≤ n := by omega
theorem suc_meas {i m n : Nat} (h : m = i + 1) (hi : i < n) : n - (intOf (.int .i64 (m : Int))).toNat < n - (intOf (.int .i64 (i : Int))).toNat := by simp [intOf]; omega
theorem two_letters (x : Int) : ∃ U K : Nat, IntKind.u64.wrap x = (U : Int) ∧ (U : Int).tmod 2 = (K : Int) ∧ K < 2 ∧ (0 : Int) ≤ (K : Int) ∧ (K : Int) < 2 := by
  obtain ⟨U, hU⟩ : ∃ U : Nat, IntKind.u64.wrap x = (U : Int) := ⟨(IntKind.u64.wrap x).toNat, by rw [IntKind.wrap_u64]; omega⟩
  refine ⟨U, U % 2, hU, ?_, by omega, by omega, by omega⟩
  rw [Int.tmod_eq_emod_of_nonneg (by omega)]; omega
theorem letter_at (w : World) (K : Nat) (hK : K < 2) : ∃ lt : Int, (lt = 103 ∨ lt = 71) ∧ (w.alloc (.cells #[.int .i64 103, .int .i64 71] 3)).cell? ⟨w.heap.size, K, none⟩ = some (.int .i64 lt) := by
  have k : Rg.Bk w.heap.size [.int .i64 103, .int .i64 71] 3 (w.alloc (.cells #[.int .i64 103, .int .i64 71] 3)) := Rg.Bk.new rfl
  match K, hK with
  | 0, _ => exact ⟨103, .inl rfl, k.cell 0⟩
  | 1, _ => exact ⟨71, .inr rfl, k.cell 1⟩
set_option maxHeartbeats 4000000 in
set_option maxRecDepth 100000 in
theorem right_core (x y : Int) (U K n cap : Nat) (l : List Gp.Op5) (a : Option Addr) (w : World) (lt : Int) (u0 : IntKind.u64.wrap x = (U : Int)) (u1 : (U : Int).tmod 2 = (K : Int)) (k0 : (0 : Int) ≤ (K : Int)) (k1 : (K : Int) < 2) (cl : (w.alloc (.cells #[.int .i64 103, .int .i64 71] 3)).cell? ⟨w.heap.size, K, none⟩ = some (.int .i64 lt)) (hlt : Hid (lt = 103 ∨ lt = 71))
    (hnl : Hid (n = l.length)) (hn : decide ((100 : Int) < (n : Int)) = false) (hnn : Hid (n ≤ 100)) (hrow : Hid (ERow goE w a l)) :
    Calls Try.prog 3 #[.int .i64 x, .int .i64 y, .slice a n cap] w fun e w' => e = .returned (.bool true) ∧ Below w.heap.size w w' := by
  have HG := Rg.hid (begun_any lt y x (w.alloc (.cells #[.int .i64 103, .int .i64 71] 3)) hlt.out)
  have b0 := Rg.hid (Rg.al1 w (.cells #[.int .i64 103, .int .i64 71] 3))
  go_enter Try.func3, Try.ntmps3
  go_upto_region 4 with (first | (go_at_call 5; refine HG.out.mono ?_; rintro e w1 ⟨CA, CB, za, zb, ra, rb, rfl, hD1, b1, hok⟩; obtain ⟨w2, st2, b2, hP2⟩ := pair_box (w0 := Gp.ctrl 7 rb) (w1 := Gp.ctrl 7 ra) (fun Kp => (hD1.out Kp).1) (fun Kp => (hD1.out Kp).2)) | (with_reducible refine is_store (.tmp 7) (.tmp 26) 38 ?_; refine list_store (.tmp 7) (.tmp 26) 38 rfl rfl st2.out ?_))
  obtain ⟨BP, hBP⟩ : ∃ B, B = w1.heap.size := ⟨_, rfl⟩
  rw [← hBP] at hP2 ⊢
  have hldP := Rg.hid ((hP2.out (fun b => b ≠ BP) (fun h => h rfl)).loadA)
  have b02 := Rg.hid (Rg.chain (Rg.chain b0.out b1.out) b2.out)
  obtain ⟨BD, hBD⟩ : ∃ B, B = w2.heap.size := ⟨_, rfl⟩
  obtain ⟨Kp, hKp⟩ : ∃ Kp : Nat → Prop, Kp = fun b => b ≠ BD := ⟨_, rfl⟩
  have hA2 := Rg.hid ((hD1.out Kp).1.below b2.out)
  obtain ⟨w3, st3, k3, b3, hA3⟩ := hA2.out.box
  rw [← hBD] at k3
  have hnD : Hid (¬ Kp BD) := by show ¬ _; rw [hKp]; exact fun h => h rfl
  have hK3 : Hid (∀ W : World, w3.heap.size ≤ W.heap.size → ∀ b, W.heap.size ≤ b → Kp b) := by
    intro W h1 b h2
    rw [hKp]
    have := k3.out.lt
    show b ≠ BD
    omega
  have hDw : Hid (w.heap.size ≤ BD) := by show _ ≤ _; rw [hBD]; exact b02.out.size
  obtain ⟨z1, z2, z3, z4, z5, z6, z7, z8⟩ := hok.out
  have hI0 : Hid (RtI Kp BD w w3 w3 0) := ⟨⟨_, CA, k3.out, hA3.out, Gp.Ok.begin_ true hlt.out z1 z3 z5 z6, Nat.zero_le _⟩, Rg.chain b02.out b3.out, Nat.le_refl _⟩
  clear cl u0 u1 k0 k1 z1 z2 z3 z4 z5 z6 z7 z8 hKp hBP HG b0 hD1 b1 st2 b2 hP2 hok b02 k3 b3 hA3
  go_upto_region 7 with (first | (with_reducible refine is_load (.tmp 31) 31 ?_; refine list_mload (.tmp 31) 31 rfl hldP.out ?_) | (with_reducible refine is_store (.tmp 9) (.tmp 32) 31 ?_; refine list_store (.tmp 9) (.tmp 32) 31 rfl rfl st3.out ?_))
  rw [← hBD]
  replace hBD := Rg.hid hBD
  clear hldP st3 hA2 hBD
  go_wp2
  go_loopw [35] (fun vi wr => ∃ i : Nat, i ≤ n ∧ vi = .int .i64 i ∧ Hid (RtI Kp BD w w3 wr i)) (fun vi _ => n - (intOf vi).toNat)
  case atStart => exact ⟨0, Nat.zero_le _, rfl, hI0⟩
  case round =>
    obtain ⟨i, hin, rfl, hI⟩ := hrel
    obtain ⟨⟨d, CS, k, hd, hok, hq⟩, bw, hsz⟩ := hI.out
    by_cases hil : i < n
    · have hil2 : i < l.length := by rw [← hnl.out]; exact hil
      obtain ⟨b1, o1, rfl, _, _, y1⟩ := (hrow.out.below bw).cell hil2
      replace y1 := go_at y1
      generalize l[i] = o at y1
      obtain ⟨ok, oy, on, ob, os⟩ := o
      obtain ⟨c0, c1, c2, c3, c4⟩ := y1
      have em : goE.m = 5 := rfl
      rw [em] at c0 c1 c2 c3 c4
      dsimp only at c0 c1 c2 c3 c4
      have iz0 : (0 : Int) ≤ (i : Int) := by omega
      have iz1 : (i : Int) < (n : Int) := by omega
      have hi100 : i ≤ 100 := by have := hnn.out; omega
      have hat := ok_at hok hi100
      have hi1 : Hid (i ≤ 100) := hi100
      obtain ⟨m, hm⟩ : ∃ m, m = i + 1 := ⟨_, rfl⟩
      have hw1 : Hid (wrap64 ((i : Int) + 1) = (m : Int)) := suc_wrap hm hi100
      replace hm := Rg.hid hm
      replace k := Rg.hid k
      replace hd := Rg.hid hd
      replace hok := Rg.hid hok
      replace hq := Rg.hid hq
      replace bw := Rg.hid bw
      replace hsz := Rg.hid hsz
      replace hat := Rg.hid hat
      have kO : Hid (Rg.Bk wr.heap.size [.int .i64 ok, .int .i64 oy, .int .i64 on, .int .i64 ob, .string os] 43 (wr.alloc (.cells #[.int .i64 ok, .int .i64 oy, .int .i64 on, .int .i64 ob, .string os] 43))) := Rg.Bk.new rfl
      have bO := Rg.hid (Rg.al1 wr (.cells #[.int .i64 ok, .int .i64 oy, .int .i64 on, .int .i64 ob, .string os] 43))
      clear em hi100 hI hI0 hil2
      go_upto_region 10 with fail
      generalize World.alloc _ _ = wO at *
      obtain ⟨BO, hBO⟩ : ∃ B, B = wr.heap.size := ⟨_, rfl⟩
      rw [← hBO] at kO ⊢
      replace hBO := Rg.hid hBO
      have f0 : wO.cell? ⟨BO, 0, none⟩ = some (.int .i64 ok) := kO.out.cell 0
      have f4 : wO.cell? ⟨BO, 4, none⟩ = some (.string os) := kO.out.cell 4
      have kD := Rg.hid (k.out.below bO.out k.out.lt)
      have hdO := Rg.hid (hd.out.below bO.out)
      have bwO := Rg.hid (Rg.chain bw.out bO.out)
      have hszO : Hid (w3.heap.size ≤ wO.heap.size) := Nat.le_trans hsz.out bO.out.size
      have hld := Rg.hid (hdO.out.load kD.out)
      have HA : Hid (∀ W, Below wO.heap.size wO W → Calls Try.prog 4 #[] W fun e w' => e = .returned (.bool true) ∧ Below W.heap.size W w') := fun W _ => awake_any W
      clear hBO k hd bw hsz bO c0 c1 c2 c3 c4
      by_cases hS : os.size ≤ 5000
      · have dS : decide ((5000 : Int) < (os.size : Int)) = false := by simp; omega
        have dS2 : ¬ (5000 : Int) < (os.size : Int) := by omega
        replace hS := Rg.hid hS
        go_upto_region 12 with fail
        by_cases e1 : ok = 1
        · subst e1
          have HC := Rg.hid (htick hdO.out hok.out.rt hat.out.1 (hK3.out wO hszO.out))
          have hok5 := ok_tick hok.out hq.out hm.out hi1.out
          obtain ⟨d5, hd5e⟩ : ∃ d5, d5 = (Gp.tick d).1 := ⟨_, rfl⟩
          replace hok5 : Hid (Gp.Ok (5000 * m) d5 ∧ d5.queue.length ≤ m) := by show _ ∧ _; rw [hd5e]; exact hok5
          replace hd5e := Rg.hid hd5e
          clear hok hq hat
          go_upto_region 20 with (first | (with_reducible refine is_load (.tmp 9) 31 ?_; refine list_load (.tmp 9) 31 rfl hld.out ?_) | (go_at_call 6; refine HC.out.mono ?_; rintro e w5 ⟨C5, rfl, hd5, b5⟩; obtain ⟨w6, st6, k6, o6⟩ := hd5.out.over hdO.out (kD.out.below b5.out kD.out.lt)) | (with_reducible refine is_store (.tmp 9) (.tmp 59) 31 ?_; refine list_store (.tmp 9) (.tmp 59) 31 rfl rfl st6.out ?_))
          have hd6 : Hid (DH Kp w6 d5 C5) := by show DH _ _ _ _; rw [hd5e.out]; exact hd5.out.only hnD.out o6.out
          have hld6 := Rg.hid (hd6.out.load k6.out)
          have HR := Rg.hid (hright hd6.out hok5.out.1.rt)
          have hs6 : Hid (w3.heap.size ≤ w6.heap.size) := by show _ ≤ _; rw [o6.out.size]; exact Nat.le_trans hszO.out b5.out.size
          have bw6 := Rg.hid ((Rg.chain bwO.out b5.out).trans (o6.out.bel hDw.out))
          obtain ⟨X, hX⟩ : ∃ X : ByteArray, X = ⟨d5.buf.toArray⟩ := ⟨_, rfl⟩
          have hbz : ¬ (4102 : Int) < (X.size : Int) := by rw [hX, size_bytes]; have := hok5.out.1.buf; omega
          replace hX := Rg.hid hX
          have hbz2 : decide ((4102 : Int) < (X.size : Int)) = false := by simpa using hbz
          clear hd5 b5 st6 o6 hld HC HA hszO bwO kO kD f0 f4 hd5e hdO
          go_wp2_with (first | (with_reducible refine is_load (.tmp 9) 31 ?_; refine list_load (.tmp 9) 31 rfl hld6.out ?_) | (go_at_call 10; refine HR.out.mono ?_; rintro e w7 ⟨rfl, b7⟩; have c12 := dh_buf hd6.out (k6.out.below b7 k6.out.lt); rw [← hX.out] at c12))
          go_roundw
          case rel => exact ⟨m, suc_le hm.out hil, by rw [hw1.out], ⟨⟨d5, C5, k6.out.below b7 k6.out.lt, hd6.out.below b7, hok5.out.1, hok5.out.2⟩, Rg.chain bw6.out b7, Nat.le_trans hs6.out b7.size⟩⟩
          case measure => rw [hw1.out]; exact suc_meas hm.out hil
        by_cases e2 : ok = 2
        · subst e2
          have HC := Rg.hid (hsend hdO.out hok.out.rt ⟨0, os⟩ (by have := hq.out; have := hi1.out; omega) (hK3.out wO hszO.out))
          replace HC : Hid (Calls Try.prog 7 #[.agg CS, .agg #[.int .i64 0, .string os]] wO fun e w' => HPost Kp wO (Gp.send d ⟨0, os⟩) e w') := HC
          have hok5 := ok_send hok.out hq.out ⟨0, os⟩ hm.out
          obtain ⟨d5, hd5e⟩ : ∃ d5, d5 = (Gp.send d ⟨0, os⟩).1 := ⟨_, rfl⟩
          replace hok5 : Hid (Gp.Ok (5000 * m) d5 ∧ d5.queue.length ≤ m) := by show _ ∧ _; rw [hd5e]; exact hok5
          replace hd5e := Rg.hid hd5e
          clear hok hq hat
          go_upto_region 20 with (first | (with_reducible refine is_load (.tmp 9) 31 ?_; refine list_load (.tmp 9) 31 rfl hld.out ?_) | (go_at_call 7; refine HC.out.mono ?_; rintro e w5 ⟨C5, rfl, hd5, b5⟩; obtain ⟨w6, st6, k6, o6⟩ := hd5.out.over hdO.out (kD.out.below b5.out kD.out.lt)) | (with_reducible refine is_store (.tmp 9) (.tmp 69) 31 ?_; refine list_store (.tmp 9) (.tmp 69) 31 rfl rfl st6.out ?_))
          have hd6 : Hid (DH Kp w6 d5 C5) := by show DH _ _ _ _; rw [hd5e.out]; exact hd5.out.only hnD.out o6.out
          have hld6 := Rg.hid (hd6.out.load k6.out)
          have HR := Rg.hid (hright hd6.out hok5.out.1.rt)
          have hs6 : Hid (w3.heap.size ≤ w6.heap.size) := by show _ ≤ _; rw [o6.out.size]; exact Nat.le_trans hszO.out b5.out.size
          have bw6 := Rg.hid ((Rg.chain bwO.out b5.out).trans (o6.out.bel hDw.out))
          obtain ⟨X, hX⟩ : ∃ X : ByteArray, X = ⟨d5.buf.toArray⟩ := ⟨_, rfl⟩
          have hbz : ¬ (4102 : Int) < (X.size : Int) := by rw [hX, size_bytes]; have := hok5.out.1.buf; omega
          replace hX := Rg.hid hX
          have hbz2 : decide ((4102 : Int) < (X.size : Int)) = false := by simpa using hbz
          clear hd5 b5 st6 o6 hld HC HA hszO bwO kO kD f0 f4 hd5e hdO
          go_wp2_with (first | (with_reducible refine is_load (.tmp 9) 31 ?_; refine list_load (.tmp 9) 31 rfl hld6.out ?_) | (go_at_call 10; refine HR.out.mono ?_; rintro e w7 ⟨rfl, b7⟩; have c12 := dh_buf hd6.out (k6.out.below b7 k6.out.lt); rw [← hX.out] at c12))
          go_roundw
          case rel => exact ⟨m, suc_le hm.out hil, by rw [hw1.out], ⟨⟨d5, C5, k6.out.below b7 k6.out.lt, hd6.out.below b7, hok5.out.1, hok5.out.2⟩, Rg.chain bw6.out b7, Nat.le_trans hs6.out b7.size⟩⟩
          case measure => rw [hw1.out]; exact suc_meas hm.out hil
        by_cases e3 : ok = 3
        · subst e3
          have HC := Rg.hid (hclose hdO.out hok.out.rt (hK3.out wO hszO.out))
          have hok5 := ok_close hok.out hq.out hm.out
          obtain ⟨d5, hd5e⟩ : ∃ d5, d5 = (Gp.close d).1 := ⟨_, rfl⟩
          replace hok5 : Hid (Gp.Ok (5000 * m) d5 ∧ d5.queue.length ≤ m) := by show _ ∧ _; rw [hd5e]; exact hok5
          replace hd5e := Rg.hid hd5e
          clear hok hq hat
          go_upto_region 20 with (first | (with_reducible refine is_load (.tmp 9) 31 ?_; refine list_load (.tmp 9) 31 rfl hld.out ?_) | (go_at_call 8; refine HC.out.mono ?_; rintro e w5 ⟨C5, rfl, hd5, b5⟩; obtain ⟨w6, st6, k6, o6⟩ := hd5.out.over hdO.out (kD.out.below b5.out kD.out.lt)) | (with_reducible refine is_store (.tmp 9) (.tmp 76) 31 ?_; refine list_store (.tmp 9) (.tmp 76) 31 rfl rfl st6.out ?_))
          have hd6 : Hid (DH Kp w6 d5 C5) := by show DH _ _ _ _; rw [hd5e.out]; exact hd5.out.only hnD.out o6.out
          have hld6 := Rg.hid (hd6.out.load k6.out)
          have HR := Rg.hid (hright hd6.out hok5.out.1.rt)
          have hs6 : Hid (w3.heap.size ≤ w6.heap.size) := by show _ ≤ _; rw [o6.out.size]; exact Nat.le_trans hszO.out b5.out.size
          have bw6 := Rg.hid ((Rg.chain bwO.out b5.out).trans (o6.out.bel hDw.out))
          obtain ⟨X, hX⟩ : ∃ X : ByteArray, X = ⟨d5.buf.toArray⟩ := ⟨_, rfl⟩
          have hbz : ¬ (4102 : Int) < (X.size : Int) := by rw [hX, size_bytes]; have := hok5.out.1.buf; omega
          replace hX := Rg.hid hX
          have hbz2 : decide ((4102 : Int) < (X.size : Int)) = false := by simpa using hbz
          clear hd5 b5 st6 o6 hld HC HA hszO bwO kO kD f0 f4 hd5e hdO
          go_wp2_with (first | (with_reducible refine is_load (.tmp 9) 31 ?_; refine list_load (.tmp 9) 31 rfl hld6.out ?_) | (go_at_call 10; refine HR.out.mono ?_; rintro e w7 ⟨rfl, b7⟩; have c12 := dh_buf hd6.out (k6.out.below b7 k6.out.lt); rw [← hX.out] at c12))
          go_roundw
          case rel => exact ⟨m, suc_le hm.out hil, by rw [hw1.out], ⟨⟨d5, C5, k6.out.below b7 k6.out.lt, hd6.out.below b7, hok5.out.1, hok5.out.2⟩, Rg.chain bw6.out b7, Nat.le_trans hs6.out b7.size⟩⟩
          case measure => rw [hw1.out]; exact suc_meas hm.out hil
        have d1 : (ok == 1) = false := by simpa using e1
        have d2 : (ok == 2) = false := by simpa using e2
        have d3 : (ok == 3) = false := by simpa using e3
        have HC := Rg.hid (hfeed hdO.out hok.out.rt os.data.toList (hat.out.2 _ (by have := hS.out; exact this)).1 (hat.out.2 _ (by have := hS.out; exact this)).2 (hK3.out wO hszO.out))
        replace HC : Hid (Calls Try.prog 9 #[.agg CS, .string os] wO fun e w' => HFPost Kp wO (Gp.feed d os.data.toList) e w') := HC
        have hok5 := ok_feed hok.out hq.out hm.out hi1.out os.data.toList (by have := hS.out; exact this)
        obtain ⟨d5, hd5e⟩ : ∃ d5, d5 = (Gp.feed d os.data.toList).1 := ⟨_, rfl⟩
        replace hok5 : Hid (Gp.Ok (5000 * m) d5 ∧ d5.queue.length ≤ m) := by show _ ∧ _; rw [hd5e]; exact hok5
        replace hd5e := Rg.hid hd5e
        clear hok hq hat
        go_upto_region 20 with (first | (with_reducible refine is_load (.tmp 9) 31 ?_; refine list_load (.tmp 9) 31 rfl hld.out ?_) | (go_at_call 9; refine HC.out.mono ?_; rintro e w5 ⟨C5, a5, l5, rfl, hd5, b5, _⟩; obtain ⟨w6, st6, k6, o6⟩ := hd5.out.over hdO.out (kD.out.below b5.out kD.out.lt)) | (with_reducible refine is_store (.tmp 9) (.tmp 51) 31 ?_; refine list_store (.tmp 9) (.tmp 51) 31 rfl rfl st6.out ?_))
        have hd6 : Hid (DH Kp w6 d5 C5) := by show DH _ _ _ _; rw [hd5e.out]; exact hd5.out.only hnD.out o6.out
        have hld6 := Rg.hid (hd6.out.load k6.out)
        have HR := Rg.hid (hright hd6.out hok5.out.1.rt)
        have hs6 : Hid (w3.heap.size ≤ w6.heap.size) := by show _ ≤ _; rw [o6.out.size]; exact Nat.le_trans hszO.out b5.out.size
        have bw6 := Rg.hid ((Rg.chain bwO.out b5.out).trans (o6.out.bel hDw.out))
        obtain ⟨X, hX⟩ : ∃ X : ByteArray, X = ⟨d5.buf.toArray⟩ := ⟨_, rfl⟩
        have hbz : ¬ (4102 : Int) < (X.size : Int) := by rw [hX, size_bytes]; have := hok5.out.1.buf; omega
        replace hX := Rg.hid hX
        have hbz2 : decide ((4102 : Int) < (X.size : Int)) = false := by simpa using hbz
        clear hd5 b5 st6 o6 hld HC HA hszO bwO kO kD f0 f4 hd5e hdO
        go_wp2_with (first | (with_reducible refine is_load (.tmp 9) 31 ?_; refine list_load (.tmp 9) 31 rfl hld6.out ?_) | (go_at_call 10; refine HR.out.mono ?_; rintro e w7 ⟨rfl, b7⟩; have c12 := dh_buf hd6.out (k6.out.below b7 k6.out.lt); rw [← hX.out] at c12))
        go_roundw
        case rel => exact ⟨m, suc_le hm.out hil, by rw [hw1.out], ⟨⟨d5, C5, k6.out.below b7 k6.out.lt, hd6.out.below b7, hok5.out.1, hok5.out.2⟩, Rg.chain bw6.out b7, Nat.le_trans hs6.out b7.size⟩⟩
        case measure => rw [hw1.out]; exact suc_meas hm.out hil
      · have dS : decide ((5000 : Int) < (os.size : Int)) = true := by simp; omega
        have dS2 : (5000 : Int) < (os.size : Int) := by omega
        go_wp2_with (go_at_call 4; refine (HA.out _ (Below.refl _ _)).mono ?_; rintro e w9 ⟨rfl, b9⟩)
        go_ret
        exact ⟨rfl, Rg.chain bwO.out b9⟩
    · have hie : i = n := by omega
      subst hie
      have HA : Hid (Calls Try.prog 4 #[] wr fun e w' => e = .returned (.bool true) ∧ Below wr.heap.size wr w') := awake_any wr
      replace bw := Rg.hid bw
      clear hI hI0 k hd hok hq hsz
      go_wp2_with (go_at_call 4; refine HA.out.mono ?_; rintro e w9 ⟨rfl, b9⟩)
      go_ret
      exact ⟨rfl, Rg.chain bw.out b9⟩
end Go.Proofs.Ytfiffbohhhehkaa
