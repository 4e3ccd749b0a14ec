/-
  Walks of layer 11: Scan.
-/
import Derived.Test.YtpgjdobgfhhbiaaGwI
namespace Go.Proofs.Ytpgjdobgfhhbiaa
open Go.RowKit
def scanV (c : Gf.Sc) : Value := .tuple #[.agg #[.int .i64 c.f.ty, .int .i64 c.f.hi, .int .i64 c.f.lo, .int .i64 c.f.sz, .string ⟨c.f.data.toArray⟩], .agg #[.int .i64 c.a, .int .i64 c.b], .bool c.ok]
/-- A packet and a span, handed back. -/
theorem ret52 {w W : World} {R P B : Nat} {p0 p1 p2 p3 p4 u u1 : Value} {ty ty2 : TypeId} (k : Rg.Bk R [p0, p1, p2, p3, p4] ty W) (q : Rg.Bk P [u, u1] ty2 W) (hne : ¬ R = P) (hb : Below B w W) (hR : B ≤ R) (hP : B ≤ P) (v0 v1 v2 v3 v4 a b : Value) :
    Rg.Bk R [v0, v1, v2, v3, v4] ty (((((((W.setCell ⟨R, 0, none⟩ v0).setCell ⟨R, 1, none⟩ v1).setCell ⟨R, 2, none⟩ v2).setCell ⟨R, 3, none⟩ v3).setCell ⟨R, 4, none⟩ v4).setCell ⟨P, 0, none⟩ a).setCell ⟨P, 1, none⟩ b) ∧
    Rg.Bk P [a, b] ty2 (((((((W.setCell ⟨R, 0, none⟩ v0).setCell ⟨R, 1, none⟩ v1).setCell ⟨R, 2, none⟩ v2).setCell ⟨R, 3, none⟩ v3).setCell ⟨R, 4, none⟩ v4).setCell ⟨P, 0, none⟩ a).setCell ⟨P, 1, none⟩ b) ∧
    Below B w (((((((W.setCell ⟨R, 0, none⟩ v0).setCell ⟨R, 1, none⟩ v1).setCell ⟨R, 2, none⟩ v2).setCell ⟨R, 3, none⟩ v3).setCell ⟨R, 4, none⟩ v4).setCell ⟨P, 0, none⟩ a).setCell ⟨P, 1, none⟩ b) := by
  obtain ⟨k5, o5⟩ := Rg.ret5 k rfl v0 v1 v2 v3 v4
  have q5 := q.same (o5.block P (fun e => hne e.symm))
  have q7 := (q5.set 0 a).set 1 b
  have k7 := (k5.other (c := P) (i := 0) hne a).other (c := P) (i := 1) hne b
  exact ⟨k7, q7, ((hb.trans (o5.bel hR)).setCell (p := ⟨P, 0, none⟩) hP a).setCell (p := ⟨P, 1, none⟩) hP b⟩
set_option maxHeartbeats 4000000 in
set_option maxRecDepth 100000 in
theorem gscan_core (s : ByteArray) (w : World) (hml : s.size ≤ 9000) (hne : ¬ w.heap.size = w.heap.size + 1)
    (HR : Hid (∀ k W, Calls Try.prog 14 #[.string (s.extract k s.size)] W fun e w' => e = .returned (Gf.resV (Gf.read (s.data.toList.drop k))) ∧ Below W.heap.size W w'))
    (hbig : Hid (∀ k f n, Gf.read (s.data.toList.drop k) = .ok (f, n) → n ≤ 9000))
    (k0 : Rg.Bk w.heap.size [.int .i64 0, .int .i64 0, .int .i64 0, .int .i64 0, .string ⟨#[]⟩] 23 ((w.alloc (.cells #[.int .i64 0, .int .i64 0, .int .i64 0, .int .i64 0, .string ⟨#[]⟩] 23)).alloc (.cells #[.int .i64 0, .int .i64 0] 34))) (k1 : Rg.Bk (w.heap.size + 1) [.int .i64 0, .int .i64 0] 34 ((w.alloc (.cells #[.int .i64 0, .int .i64 0, .int .i64 0, .int .i64 0, .string ⟨#[]⟩] 23)).alloc (.cells #[.int .i64 0, .int .i64 0] 34))) (bw : Below w.heap.size w ((w.alloc (.cells #[.int .i64 0, .int .i64 0, .int .i64 0, .int .i64 0, .string ⟨#[]⟩] 23)).alloc (.cells #[.int .i64 0, .int .i64 0] 34))) :
    Calls Try.prog 16 #[.string s] w fun e w' => e = .returned (scanV (Gf.scan 0 s.data.toList)) ∧ Below w.heap.size w w' := by
  go_enter Try.func16, Try.ntmps16
  go_wp2
  go_loopw [11] (fun i wr => ∃ k : Nat, k ≤ s.size ∧ i = .int .i64 k ∧ Hid (Gf.scan 0 s.data.toList = Gf.scan k (s.data.toList.drop k)) ∧ Hid (Rg.Bk w.heap.size [.int .i64 0, .int .i64 0, .int .i64 0, .int .i64 0, .string ⟨#[]⟩] 23 wr) ∧ Hid (Rg.Bk (w.heap.size + 1) [.int .i64 0, .int .i64 0] 34 wr) ∧ Hid (Below w.heap.size w wr)) (fun i _ => s.size - (intOf i).toNat)
  case atStart => exact ⟨0, Nat.zero_le _, rfl, rfl, k0, k1, bw⟩
  case round =>
    obtain ⟨k, hk, rfl, hsc, kR0, kP0, b0⟩ := hrel
    replace kR0 := kR0.out
    replace kP0 := kP0.out
    replace b0 := b0.out
    clear k0 k1 bw
    by_cases hlt : k < s.size
    · have hcons : s.data.toList.drop k = s[k] :: s.data.toList.drop (k + 1) := Chk.drop_cons s k hlt
      have hki : (k : Int) ≤ (s.size : Int) := by omega
      have hki2 : decide ((k : Int) < (s.size : Int)) = true := by simp; omega
      have H := HR.out k
      cases hrd : Gf.read (s.data.toList.drop k) with
      | ok fn =>
        obtain ⟨f, n⟩ := fn
        have hn := hbig.out k f n hrd
        rw [hrd] at H
        have hfin : Hid (Gf.scan 0 s.data.toList = ⟨f, k, k + n, true⟩) := by
          show _ = _
          rw [hsc.out, hcons, Gf.scan, ← hcons, hrd]
        obtain ⟨t2, h2, l2, z2, d2⟩ := f
        have H : Hid (∀ W, Calls Try.prog 14 #[.string (s.extract k s.size)] W fun e w' => e = .returned (.tuple #[.agg #[.int .i64 t2, .int .i64 h2, .int .i64 l2, .int .i64 z2, .string ⟨d2.toArray⟩], .int .i64 n, .int .i64 0]) ∧ Below W.heap.size W w') := H
        clear hrd hcons HR hbig hsc
        have hN : (k : Int) + (n : Int) = ((k + n : Nat) : Int) := by omega
        generalize hKN : k + n = KN at *
        replace hKN := Rg.hid hKN
        have hres : Hid (scanV (Gf.scan 0 s.data.toList) = .tuple #[.agg #[.int .i64 t2, .int .i64 h2, .int .i64 l2, .int .i64 z2, .string ⟨d2.toArray⟩], .agg #[.int .i64 k, .int .i64 KN], .bool true]) := by show _ = _; rw [hfin.out]; rfl
        clear hfin
        generalize (⟨d2.toArray⟩ : ByteArray) = D at *
        go_upto_region 5 with (go_at_call 14; refine (H.out _).mono ?_; rintro e w2 ⟨rfl, b2⟩)
        have kR := (kR0.below b2 kR0.lt).old (.cells #[.int .i64 t2, .int .i64 h2, .int .i64 l2, .int .i64 z2, .string D] 23)
        have kP := (kP0.below b2 kP0.lt).old (.cells #[.int .i64 t2, .int .i64 h2, .int .i64 l2, .int .i64 z2, .string D] 23)
        have kF : Rg.Bk w2.heap.size [.int .i64 t2, .int .i64 h2, .int .i64 l2, .int .i64 z2, .string D] 23 (w2.alloc (.cells #[.int .i64 t2, .int .i64 h2, .int .i64 l2, .int .i64 z2, .string D] 23)) := Rg.Bk.new rfl
        have bR := (b0.trans (b2.mono b0.size)).alloc (b0.trans (b2.mono b0.size)).size (.cells #[.int .i64 t2, .int .i64 h2, .int .i64 l2, .int .i64 z2, .string D] 23)
        clear H kR0 kP0 b0 b2
        generalize w2.alloc (.cells #[.int .i64 t2, .int .i64 h2, .int .i64 l2, .int .i64 z2, .string D] 23) = W3 at *
        generalize w2.heap.size = F at *
        have cR := kR.cell; have fR := kR.thaw; have zR := kR.lt; have cP := kP.cell; have fP := kP.thaw; have zP := kP.lt; have cF := kF.cell; have zF := kF.lt
        go_wp2
        have hk := ret52 kR kP hne bR (Nat.le_refl _) (Nat.le_succ _) (.int .i64 t2) (.int .i64 h2) (.int .i64 l2) (.int .i64 z2) (.string D) (.int .i64 k) (.int .i64 KN)
        clear cR fR cP fP zR zP cF zF
        generalize World.setCell _ _ _ = WE at *
        obtain ⟨kE, kG, bE⟩ := hk
        have cE := kE.cell
        have cG := kG.cell
        exact bodyPost_ret (v := .tuple #[.agg #[.int .i64 t2, .int .i64 h2, .int .i64 l2, .int .i64 z2, .string D], .agg #[.int .i64 k, .int .i64 KN], .bool true]) (by simp [results, Try.results16, go_sem, cE, cG]) rfl ⟨by rw [hres.out], bE⟩
      | error e =>
        rw [hrd] at H
        have H : Hid (∀ W, Calls Try.prog 14 #[.string (s.extract k s.size)] W fun e' w' => e' = .returned (.tuple #[.agg #[.int .i64 0, .int .i64 0, .int .i64 0, .int .i64 0, .string ⟨#[]⟩], .int .i64 0, .int .i64 e]) ∧ Below W.heap.size W w') := H
        by_cases he : e = 2
        · subst he
          have hres : Hid (scanV (Gf.scan 0 s.data.toList) = .tuple #[.agg #[.int .i64 0, .int .i64 0, .int .i64 0, .int .i64 0, .string ⟨#[]⟩], .agg #[.int .i64 k, .int .i64 k], .bool false]) := by
            show _ = _
            rw [hsc.out, hcons, Gf.scan, ← hcons, hrd]
            rfl
          clear hrd hcons HR hbig hsc
          go_upto_region 5 with (go_at_call 14; refine (H.out _).mono ?_; rintro e w2 ⟨rfl, b2⟩)
          have kR := (kR0.below b2 kR0.lt).old (.cells #[.int .i64 0, .int .i64 0, .int .i64 0, .int .i64 0, .string ⟨#[]⟩] 23)
          have kP := (kP0.below b2 kP0.lt).old (.cells #[.int .i64 0, .int .i64 0, .int .i64 0, .int .i64 0, .string ⟨#[]⟩] 23)
          have kF : Rg.Bk w2.heap.size [.int .i64 0, .int .i64 0, .int .i64 0, .int .i64 0, .string ⟨#[]⟩] 23 (w2.alloc (.cells #[.int .i64 0, .int .i64 0, .int .i64 0, .int .i64 0, .string ⟨#[]⟩] 23)) := Rg.Bk.new rfl
          have bR := (b0.trans (b2.mono b0.size)).alloc (b0.trans (b2.mono b0.size)).size (.cells #[.int .i64 0, .int .i64 0, .int .i64 0, .int .i64 0, .string ⟨#[]⟩] 23)
          clear H kR0 kP0 b0 b2
          generalize w2.alloc (.cells #[.int .i64 0, .int .i64 0, .int .i64 0, .int .i64 0, .string ⟨#[]⟩] 23) = W3 at *
          generalize w2.heap.size = F at *
          have cR := kR.cell; have fR := kR.thaw; have zR := kR.lt; have cP := kP.cell; have fP := kP.thaw; have zP := kP.lt; have cF := kF.cell; have zF := kF.lt
          go_wp2
          have hk := ret52 kR kP hne bR (Nat.le_refl _) (Nat.le_succ _) (.int .i64 0) (.int .i64 0) (.int .i64 0) (.int .i64 0) (.string ⟨#[]⟩) (.int .i64 k) (.int .i64 k)
          clear cR fR cP fP zR zP cF zF
          generalize World.setCell _ _ _ = WE at *
          obtain ⟨kE, kG, bE⟩ := hk
          have cE := kE.cell
          have cG := kG.cell
          exact bodyPost_ret (v := .tuple #[.agg #[.int .i64 0, .int .i64 0, .int .i64 0, .int .i64 0, .string ⟨#[]⟩], .agg #[.int .i64 k, .int .i64 k], .bool false]) (by simp [results, Try.results16, go_sem, cE, cG]) rfl ⟨by rw [hres.out], bE⟩
        · have he0 : ¬ e = 0 := fun h => Gf.read_err0 _ (by rw [← h]; exact hrd)
          have hnext : Hid (Gf.scan 0 s.data.toList = Gf.scan (k + 1) (s.data.toList.drop (k + 1))) := by
            show _ = _
            rw [hsc.out, hcons, Gf.scan, ← hcons, hrd]
            exact if_neg he
          have d1 : ((e : Int) == 0) = false := beq_eq_false_iff_ne.2 (by omega)
          have d2 : ((e : Int) == 2) = false := beq_eq_false_iff_ne.2 (by omega)
          clear hrd hcons HR hbig hsc he he0
          go_wp2_with (go_at_call 14; refine (H.out _).mono ?_; rintro e w2 ⟨rfl, b2⟩; have kR := Rg.hid ((kR0.below b2 kR0.lt).old (.cells #[.int .i64 0, .int .i64 0, .int .i64 0, .int .i64 0, .string ⟨#[]⟩] 23)); have kP := Rg.hid ((kP0.below b2 kP0.lt).old (.cells #[.int .i64 0, .int .i64 0, .int .i64 0, .int .i64 0, .string ⟨#[]⟩] 23)); have bR := Rg.hid ((b0.trans (b2.mono b0.size)).alloc (b0.trans (b2.mono b0.size)).size (.cells #[.int .i64 0, .int .i64 0, .int .i64 0, .int .i64 0, .string ⟨#[]⟩] 23)))
          go_roundw
          case rel => exact ⟨k + 1, by omega, by go_num, hnext, kR, kP, bR⟩
          case measure => simp [intOf]; omega
    · have hks : k = s.size := by omega
      have hres : Hid (scanV (Gf.scan 0 s.data.toList) = .tuple #[.agg #[.int .i64 0, .int .i64 0, .int .i64 0, .int .i64 0, .string ⟨#[]⟩], .agg #[.int .i64 s.size, .int .i64 s.size], .bool false]) := by
        show _ = _
        rw [hsc.out, List.drop_eq_nil_of_le (by rw [Gf.len_eq]; omega), Gf.scan, hks]
        rfl
      have hki2 : decide ((k : Int) < (s.size : Int)) = false := by simp; omega
      replace hks := Rg.hid hks
      clear HR hbig hsc
      have kR := kR0; have kP := kP0; have bR := b0
      have cR := kR.cell; have fR := kR.thaw; have zR := kR.lt; have cP := kP.cell; have fP := kP.thaw; have zP := kP.lt
      clear kR0 kP0 b0
      go_wp2
      have hk := ret52 kR kP hne bR (Nat.le_refl _) (Nat.le_succ _) (.int .i64 0) (.int .i64 0) (.int .i64 0) (.int .i64 0) (.string ⟨#[]⟩) (.int .i64 s.size) (.int .i64 s.size)
      clear cR fR cP fP zR zP
      generalize World.setCell _ _ _ = WE at *
      obtain ⟨kE, kG, bE⟩ := hk
      have cE := kE.cell
      have cG := kG.cell
      exact bodyPost_ret (v := .tuple #[.agg #[.int .i64 0, .int .i64 0, .int .i64 0, .int .i64 0, .string ⟨#[]⟩], .agg #[.int .i64 s.size, .int .i64 s.size], .bool false]) (by simp [results, Try.results16, go_sem, cE, cG]) rfl ⟨by rw [hres.out], bE⟩
end Go.Proofs.Ytpgjdobgfhhbiaa
