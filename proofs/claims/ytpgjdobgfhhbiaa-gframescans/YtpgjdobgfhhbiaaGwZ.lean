/-
  Walks of the laws of layer 11: GframeScans.
-/
import Derived.Test.YtpgjdobgfhhbiaaGwX
import Derived.Test.YtpgjdobgfhhbiaaGwO
namespace Go.Proofs.Ytpgjdobgfhhbiaa
open Go.RowKit
set_option maxHeartbeats 4000000 in
set_option maxRecDepth 100000 in
theorem rgscan_core (s : ByteArray) (w : World) (hml : s.size ≤ 9000) (hne : ¬ w.heap.size = w.heap.size + 1)
    (HR : Hid (∀ k W, Calls Try.prog 15 #[.string (s.extract k s.size)] W fun e w' => e = .returned (Gf.resV (Gf.read (s.data.toList.drop k))) ∧ Below W.heap.size W w'))
    (hbig : Hid (∀ k f n, Gf.read (s.data.toList.drop k) = .ok (f, n) → n ≤ 9000))
    (k0 : Rg.Bk w.heap.size [.int .i64 0, .int .i64 0, .int .i64 0, .int .i64 0, .string ⟨#[]⟩] 23 ((w.alloc (.cells #[.int .i64 0, .int .i64 0, .int .i64 0, .int .i64 0, .string ⟨#[]⟩] 23)).alloc (.cells #[.int .i64 0, .int .i64 0] 34))) (k1 : Rg.Bk (w.heap.size + 1) [.int .i64 0, .int .i64 0] 34 ((w.alloc (.cells #[.int .i64 0, .int .i64 0, .int .i64 0, .int .i64 0, .string ⟨#[]⟩] 23)).alloc (.cells #[.int .i64 0, .int .i64 0] 34))) (bw : Below w.heap.size w ((w.alloc (.cells #[.int .i64 0, .int .i64 0, .int .i64 0, .int .i64 0, .string ⟨#[]⟩] 23)).alloc (.cells #[.int .i64 0, .int .i64 0] 34))) :
    Calls Try.prog 17 #[.string s] w fun e w' => e = .returned (scanV (Gf.scan 0 s.data.toList)) ∧ Below w.heap.size w w' := by
  go_enter Try.func17, Try.ntmps17
  go_wp2
  go_loopw [11] (fun i wr => ∃ k : Nat, k ≤ s.size ∧ i = .int .i64 k ∧ Hid (Gf.scan 0 s.data.toList = Gf.scan k (s.data.toList.drop k)) ∧ Hid (Rg.Bk w.heap.size [.int .i64 0, .int .i64 0, .int .i64 0, .int .i64 0, .string ⟨#[]⟩] 23 wr) ∧ Hid (Rg.Bk (w.heap.size + 1) [.int .i64 0, .int .i64 0] 34 wr) ∧ Hid (Below w.heap.size w wr)) (fun i _ => s.size - (intOf i).toNat)
  case atStart => exact ⟨0, Nat.zero_le _, rfl, rfl, k0, k1, bw⟩
  case round =>
    obtain ⟨k, hk, rfl, hsc, kR0, kP0, b0⟩ := hrel
    replace kR0 := kR0.out
    replace kP0 := kP0.out
    replace b0 := b0.out
    clear k0 k1 bw
    by_cases hlt : k < s.size
    · have hcons : s.data.toList.drop k = s[k] :: s.data.toList.drop (k + 1) := Chk.drop_cons s k hlt
      have hki : (k : Int) ≤ (s.size : Int) := by omega
      have hki2 : decide ((k : Int) < (s.size : Int)) = true := by simp; omega
      have H := HR.out k
      cases hrd : Gf.read (s.data.toList.drop k) with
      | ok fn =>
        obtain ⟨f, n⟩ := fn
        have hn := hbig.out k f n hrd
        rw [hrd] at H
        have hfin : Hid (Gf.scan 0 s.data.toList = ⟨f, k, k + n, true⟩) := by
          show _ = _
          rw [hsc.out, hcons, Gf.scan, ← hcons, hrd]
        obtain ⟨t2, h2, l2, z2, d2⟩ := f
        have H : Hid (∀ W, Calls Try.prog 15 #[.string (s.extract k s.size)] W fun e w' => e = .returned (.tuple #[.agg #[.int .i64 t2, .int .i64 h2, .int .i64 l2, .int .i64 z2, .string ⟨d2.toArray⟩], .int .i64 n, .int .i64 0]) ∧ Below W.heap.size W w') := H
        clear hrd hcons HR hbig hsc
        have hN : (k : Int) + (n : Int) = ((k + n : Nat) : Int) := by omega
        generalize hKN : k + n = KN at *
        replace hKN := Rg.hid hKN
        have hres : Hid (scanV (Gf.scan 0 s.data.toList) = .tuple #[.agg #[.int .i64 t2, .int .i64 h2, .int .i64 l2, .int .i64 z2, .string ⟨d2.toArray⟩], .agg #[.int .i64 k, .int .i64 KN], .bool true]) := by show _ = _; rw [hfin.out]; rfl
        clear hfin
        generalize (⟨d2.toArray⟩ : ByteArray) = D at *
        go_upto_region 5 with (go_at_call 15; refine (H.out _).mono ?_; rintro e w2 ⟨rfl, b2⟩)
        have kR := (kR0.below b2 kR0.lt).old (.cells #[.int .i64 t2, .int .i64 h2, .int .i64 l2, .int .i64 z2, .string D] 23)
        have kP := (kP0.below b2 kP0.lt).old (.cells #[.int .i64 t2, .int .i64 h2, .int .i64 l2, .int .i64 z2, .string D] 23)
        have kF : Rg.Bk w2.heap.size [.int .i64 t2, .int .i64 h2, .int .i64 l2, .int .i64 z2, .string D] 23 (w2.alloc (.cells #[.int .i64 t2, .int .i64 h2, .int .i64 l2, .int .i64 z2, .string D] 23)) := Rg.Bk.new rfl
        have bR := (b0.trans (b2.mono b0.size)).alloc (b0.trans (b2.mono b0.size)).size (.cells #[.int .i64 t2, .int .i64 h2, .int .i64 l2, .int .i64 z2, .string D] 23)
        clear H kR0 kP0 b0 b2
        generalize w2.alloc (.cells #[.int .i64 t2, .int .i64 h2, .int .i64 l2, .int .i64 z2, .string D] 23) = W3 at *
        generalize w2.heap.size = F at *
        have cR := kR.cell; have fR := kR.thaw; have zR := kR.lt; have cP := kP.cell; have fP := kP.thaw; have zP := kP.lt; have cF := kF.cell; have zF := kF.lt
        go_wp2
        have hk := ret52 kR kP hne bR (Nat.le_refl _) (Nat.le_succ _) (.int .i64 t2) (.int .i64 h2) (.int .i64 l2) (.int .i64 z2) (.string D) (.int .i64 k) (.int .i64 KN)
        clear cR fR cP fP zR zP cF zF
        generalize World.setCell _ _ _ = WE at *
        obtain ⟨kE, kG, bE⟩ := hk
        have cE := kE.cell
        have cG := kG.cell
        exact bodyPost_ret (v := .tuple #[.agg #[.int .i64 t2, .int .i64 h2, .int .i64 l2, .int .i64 z2, .string D], .agg #[.int .i64 k, .int .i64 KN], .bool true]) (by simp [results, Try.results17, go_sem, cE, cG]) rfl ⟨by rw [hres.out], bE⟩
      | error e =>
        rw [hrd] at H
        have H : Hid (∀ W, Calls Try.prog 15 #[.string (s.extract k s.size)] W fun e' w' => e' = .returned (.tuple #[.agg #[.int .i64 0, .int .i64 0, .int .i64 0, .int .i64 0, .string ⟨#[]⟩], .int .i64 0, .int .i64 e]) ∧ Below W.heap.size W w') := H
        by_cases he : e = 2
        · subst he
          have hres : Hid (scanV (Gf.scan 0 s.data.toList) = .tuple #[.agg #[.int .i64 0, .int .i64 0, .int .i64 0, .int .i64 0, .string ⟨#[]⟩], .agg #[.int .i64 k, .int .i64 k], .bool false]) := by
            show _ = _
            rw [hsc.out, hcons, Gf.scan, ← hcons, hrd]
            rfl
          clear hrd hcons HR hbig hsc
          go_upto_region 5 with (go_at_call 15; refine (H.out _).mono ?_; rintro e w2 ⟨rfl, b2⟩)
          have kR := (kR0.below b2 kR0.lt).old (.cells #[.int .i64 0, .int .i64 0, .int .i64 0, .int .i64 0, .string ⟨#[]⟩] 23)
          have kP := (kP0.below b2 kP0.lt).old (.cells #[.int .i64 0, .int .i64 0, .int .i64 0, .int .i64 0, .string ⟨#[]⟩] 23)
          have kF : Rg.Bk w2.heap.size [.int .i64 0, .int .i64 0, .int .i64 0, .int .i64 0, .string ⟨#[]⟩] 23 (w2.alloc (.cells #[.int .i64 0, .int .i64 0, .int .i64 0, .int .i64 0, .string ⟨#[]⟩] 23)) := Rg.Bk.new rfl
          have bR := (b0.trans (b2.mono b0.size)).alloc (b0.trans (b2.mono b0.size)).size (.cells #[.int .i64 0, .int .i64 0, .int .i64 0, .int .i64 0, .string ⟨#[]⟩] 23)
          clear H kR0 kP0 b0 b2
          generalize w2.alloc (.cells #[.int .i64 0, .int .i64 0, .int .i64 0, .int .i64 0, .string ⟨#[]⟩] 23) = W3 at *
          generalize w2.heap.size = F at *
          have cR := kR.cell; have fR := kR.thaw; have zR := kR.lt; have cP := kP.cell; have fP := kP.thaw; have zP := kP.lt; have cF := kF.cell; have zF := kF.lt
          go_wp2
          have hk := ret52 kR kP hne bR (Nat.le_refl _) (Nat.le_succ _) (.int .i64 0) (.int .i64 0) (.int .i64 0) (.int .i64 0) (.string ⟨#[]⟩) (.int .i64 k) (.int .i64 k)
          clear cR fR cP fP zR zP cF zF
          generalize World.setCell _ _ _ = WE at *
          obtain ⟨kE, kG, bE⟩ := hk
          have cE := kE.cell
          have cG := kG.cell
          exact bodyPost_ret (v := .tuple #[.agg #[.int .i64 0, .int .i64 0, .int .i64 0, .int .i64 0, .string ⟨#[]⟩], .agg #[.int .i64 k, .int .i64 k], .bool false]) (by simp [results, Try.results17, go_sem, cE, cG]) rfl ⟨by rw [hres.out], bE⟩
        · have he0 : ¬ e = 0 := fun h => Gf.read_err0 _ (by rw [← h]; exact hrd)
          have hnext : Hid (Gf.scan 0 s.data.toList = Gf.scan (k + 1) (s.data.toList.drop (k + 1))) := by
            show _ = _
            rw [hsc.out, hcons, Gf.scan, ← hcons, hrd]
            exact if_neg he
          have d1 : ((e : Int) == 0) = false := beq_eq_false_iff_ne.2 (by omega)
          have d2 : ((e : Int) == 2) = false := beq_eq_false_iff_ne.2 (by omega)
          clear hrd hcons HR hbig hsc he he0
          go_wp2_with (go_at_call 15; refine (H.out _).mono ?_; rintro e w2 ⟨rfl, b2⟩; have kR := Rg.hid ((kR0.below b2 kR0.lt).old (.cells #[.int .i64 0, .int .i64 0, .int .i64 0, .int .i64 0, .string ⟨#[]⟩] 23)); have kP := Rg.hid ((kP0.below b2 kP0.lt).old (.cells #[.int .i64 0, .int .i64 0, .int .i64 0, .int .i64 0, .string ⟨#[]⟩] 23)); have bR := Rg.hid ((b0.trans (b2.mono b0.size)).alloc (b0.trans (b2.mono b0.size)).size (.cells #[.int .i64 0, .int .i64 0, .int .i64 0, .int .i64 0, .string ⟨#[]⟩] 23)))
          go_roundw
          case rel => exact ⟨k + 1, by omega, by go_num, hnext, kR, kP, bR⟩
          case measure => simp [intOf]; omega
    · have hks : k = s.size := by omega
      have hres : Hid (scanV (Gf.scan 0 s.data.toList) = .tuple #[.agg #[.int .i64 0, .int .i64 0, .int .i64 0, .int .i64 0, .string ⟨#[]⟩], .agg #[.int .i64 s.size, .int .i64 s.size], .bool false]) := by
        show _ = _
        rw [hsc.out, List.drop_eq_nil_of_le (by rw [Gf.len_eq]; omega), Gf.scan, hks]
        rfl
      have hki2 : decide ((k : Int) < (s.size : Int)) = false := by simp; omega
      replace hks := Rg.hid hks
      clear HR hbig hsc
      have kR := kR0; have kP := kP0; have bR := b0
      have cR := kR.cell; have fR := kR.thaw; have zR := kR.lt; have cP := kP.cell; have fP := kP.thaw; have zP := kP.lt
      clear kR0 kP0 b0
      go_wp2
      have hk := ret52 kR kP hne bR (Nat.le_refl _) (Nat.le_succ _) (.int .i64 0) (.int .i64 0) (.int .i64 0) (.int .i64 0) (.string ⟨#[]⟩) (.int .i64 s.size) (.int .i64 s.size)
      clear cR fR cP fP zR zP
      generalize World.setCell _ _ _ = WE at *
      obtain ⟨kE, kG, bE⟩ := hk
      have cE := kE.cell
      have cG := kG.cell
      exact bodyPost_ret (v := .tuple #[.agg #[.int .i64 0, .int .i64 0, .int .i64 0, .int .i64 0, .string ⟨#[]⟩], .agg #[.int .i64 s.size, .int .i64 s.size], .bool false]) (by simp [results, Try.results17, go_sem, cE, cG]) rfl ⟨by rw [hres.out], bE⟩
theorem rgscan_any (s : ByteArray) (hs : s.size ≤ 9000) (w : World) :
    Calls Try.prog 17 #[.string s] w fun e w' => e = .returned (scanV (Gf.scan 0 s.data.toList)) ∧ Below w.heap.size w w' := by
  have b0 := Gf.below1 w (.cells #[.int .i64 0, .int .i64 0, .int .i64 0, .int .i64 0, .string ⟨#[]⟩] 23)
  refine rgscan_core s w hs (by omega) (fun k W => ?_) (fun k f n h => ?_) ((Rg.Bk.new rfl).old _) (Rg.Bk.new (by simp)) (b0.alloc b0.size _)
  · have h := rgread_any (s.extract k s.size) (by rw [← Gf.len_eq, ext_drop, List.length_drop, Gf.len_eq]; unfold maxLen; omega) W
    rw [ext_drop] at h
    exact h
  · have := (Gf.text_read h).2.2.2
    rw [List.length_drop, Gf.len_eq] at this
    omega
set_option maxHeartbeats 2000000 in
set_option maxRecDepth 100000 in
theorem scans_big (s : ByteArray) (w : World) (q1 : decide ((3000 : Int) < (s.size : Int)) = true) (HA : Hid (∀ W, Calls Try.prog 9 #[] W fun e w' => e = .returned (.bool true) ∧ Below W.heap.size W w')) :
    Calls Try.prog 5 #[.string s] w fun e w' => e = .returned (.bool true) ∧ Below w.heap.size w w' := by
  go_enter Try.func5, Try.ntmps5
  go_wp2_with (go_at_call 9; refine (HA.out _).mono ?_; rintro e w3 ⟨rfl, b3⟩)
  go_ret
  exact ⟨rfl, b3⟩
set_option maxHeartbeats 2000000 in
set_option maxRecDepth 100000 in
theorem scans_core (s : ByteArray) (w : World) (t h l z A B : Int) (D : ByteArray) (K : Bool) (q1 : decide ((3000 : Int) < (s.size : Int)) = false)
    (HR : Hid (∀ W, Calls Try.prog 16 #[.string s] W fun e w' => e = .returned (.tuple #[.agg #[.int .i64 t, .int .i64 h, .int .i64 l, .int .i64 z, .string D], .agg #[.int .i64 A, .int .i64 B], .bool K]) ∧ Below W.heap.size W w'))
    (HV : Hid (∀ W, Calls Try.prog 17 #[.string s] W fun e w' => e = .returned (.tuple #[.agg #[.int .i64 t, .int .i64 h, .int .i64 l, .int .i64 z, .string D], .agg #[.int .i64 A, .int .i64 B], .bool K]) ∧ Below W.heap.size W w'))
    (HA : Hid (∀ W, Calls Try.prog 9 #[] W fun e w' => e = .returned (.bool true) ∧ Below W.heap.size W w')) :
    Calls Try.prog 5 #[.string s] w fun e w' => e = .returned (.bool true) ∧ Below w.heap.size w w' := by
  go_enter Try.func5, Try.ntmps5
  go_wp2_with (first
    | (go_at_call 16; refine (HR.out _).mono ?_; rintro e w1 ⟨rfl, b1⟩; have k1 : Rg.Bk w1.heap.size [.int .i64 t, .int .i64 h, .int .i64 l, .int .i64 z, .string D] 23 ((w1.alloc (.cells #[.int .i64 t, .int .i64 h, .int .i64 l, .int .i64 z, .string D] 23)).alloc (.cells #[.int .i64 A, .int .i64 B] 34)) := (Rg.Bk.new rfl).old _; have l1 : Rg.Bk (w1.heap.size + 1) [.int .i64 A, .int .i64 B] 34 ((w1.alloc (.cells #[.int .i64 t, .int .i64 h, .int .i64 l, .int .i64 z, .string D] 23)).alloc (.cells #[.int .i64 A, .int .i64 B] 34)) := Rg.Bk.new (by simp))
    | (go_at_call 17; refine (HV.out _).mono ?_; rintro e w2 ⟨rfl, b2⟩; have c2 := (k1.below b2 k1.lt).cell; have z2 := (k1.below b2 k1.lt).lt; have c3 := (l1.below b2 l1.lt).cell; have z3 := (l1.below b2 l1.lt).lt)
    | (go_at_call 9; refine (HA.out _).mono ?_; rintro e w3 ⟨rfl, b3⟩))
  go_ret
  have q1 := b1.alloc b1.size (.cells #[.int .i64 t, .int .i64 h, .int .i64 l, .int .i64 z, .string D] 23)
  have q2 := q1.alloc q1.size (.cells #[.int .i64 A, .int .i64 B] 34)
  have q3 := q2.trans (b2.mono q2.size)
  have q4 := q3.alloc q3.size (.cells #[.int .i64 t, .int .i64 h, .int .i64 l, .int .i64 z, .string D] 23)
  have q5 := q4.alloc q4.size (.cells #[.int .i64 A, .int .i64 B] 34)
  exact ⟨rfl, q5.trans (b3.mono q5.size)⟩
theorem scans_walk (s : ByteArray) (w : World) :
    Calls Try.prog 5 #[.string s] w fun e w' => e = .returned (.bool true) ∧ Below w.heap.size w w' := by
  by_cases q1 : 3000 < s.size
  · exact scans_big s w (by simp; omega) gawake_any
  · exact scans_core s w _ _ _ _ _ _ _ _ (by simp; omega) (fun W => gscan_any s (by omega) W) (fun W => rgscan_any s (by omega) W) gawake_any
end Go.Proofs.Ytpgjdobgfhhbiaa
