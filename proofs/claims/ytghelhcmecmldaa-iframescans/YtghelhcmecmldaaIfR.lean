/-
  Walks of layer 12: Scan.
-/
import Derived.Test.YtghelhcmecmldaaIfD
namespace Go.Proofs.Ytghelhcmecmldaa
open Go.RowKit
def scanV (c : If.Sc) : Value := .tuple #[.agg #[.int .i64 c.f.kd, .int .i64 c.f.nm, .int .i64 c.f.ak, .int .i64 c.f.ch, .bool c.f.ca, .string ⟨c.f.data.toArray⟩], .agg #[.int .i64 c.a, .int .i64 c.b], .bool c.ok]
theorem If.dropc (s : ByteArray) (k : Nat) (h : k < s.size) : s.data.toList.drop k = s[k] :: s.data.toList.drop (k + 1) := by
  rw [List.drop_eq_getElem_cons (by rw [If.len_eq]; exact h)]; rfl
/-- A packet and a span, handed back. -/
theorem ret62 {w W : World} {R P B : Nat} {p0 p1 p2 p3 p4 p5 u u1 : Value} {ty ty2 : TypeId} (k : Rg.Bk R [p0, p1, p2, p3, p4, p5] ty W) (q : Rg.Bk P [u, u1] ty2 W) (hne : ¬ R = P) (hb : Below B w W) (hR : B ≤ R) (hP : B ≤ P) (v0 v1 v2 v3 v4 v5 a b : Value) :
    Rg.Bk R [v0, v1, v2, v3, v4, v5] ty ((((((((W.setCell ⟨R, 0, none⟩ v0).setCell ⟨R, 1, none⟩ v1).setCell ⟨R, 2, none⟩ v2).setCell ⟨R, 3, none⟩ v3).setCell ⟨R, 4, none⟩ v4).setCell ⟨R, 5, none⟩ v5).setCell ⟨P, 0, none⟩ a).setCell ⟨P, 1, none⟩ b) ∧
    Rg.Bk P [a, b] ty2 ((((((((W.setCell ⟨R, 0, none⟩ v0).setCell ⟨R, 1, none⟩ v1).setCell ⟨R, 2, none⟩ v2).setCell ⟨R, 3, none⟩ v3).setCell ⟨R, 4, none⟩ v4).setCell ⟨R, 5, none⟩ v5).setCell ⟨P, 0, none⟩ a).setCell ⟨P, 1, none⟩ b) ∧
    Below B w ((((((((W.setCell ⟨R, 0, none⟩ v0).setCell ⟨R, 1, none⟩ v1).setCell ⟨R, 2, none⟩ v2).setCell ⟨R, 3, none⟩ v3).setCell ⟨R, 4, none⟩ v4).setCell ⟨R, 5, none⟩ v5).setCell ⟨P, 0, none⟩ a).setCell ⟨P, 1, none⟩ b) := by
  obtain ⟨k5, o5⟩ := Rg.ret6 k rfl v0 v1 v2 v3 v4 v5
  have q5 := q.same (o5.block P (fun e => hne e.symm))
  have q7 := (q5.set 0 a).set 1 b
  have k7 := (k5.other (c := P) (i := 0) hne a).other (c := P) (i := 1) hne b
  exact ⟨k7, q7, ((hb.trans (o5.bel hR)).setCell (p := ⟨P, 0, none⟩) hP a).setCell (p := ⟨P, 1, none⟩) hP b⟩
theorem ext_drop (s : ByteArray) (k : Nat) : (s.extract k s.size).data.toList = s.data.toList.drop k := by
  by_cases hk : k ≤ s.size
  · rw [If.extract_eq s k s.size hk (Nat.le_refl _), List.take_of_length_le]
    rw [List.length_drop, If.len_eq]; exact Nat.le_refl _
  · rw [List.drop_eq_nil_of_le (by rw [If.len_eq]; omega), ByteArray.data_extract]
    apply List.eq_nil_of_length_eq_zero
    rw [Array.length_toList, Array.size_extract]
    have : s.data.size = s.size := rfl
    omega
set_option linter.unusedVariables false in
set_option maxHeartbeats 4000000 in
set_option maxRecDepth 100000 in
theorem iscan_core (s : ByteArray) (w : World) (hml : s.size ≤ 9000) (hne : ¬ w.heap.size = w.heap.size + 1)
    (HR : Hid (∀ k W, Calls Try.prog 12 #[.string (s.extract k s.size)] W fun e w' => e = .returned (If.resV (If.read (s.data.toList.drop k))) ∧ Below W.heap.size W w'))
    (hbig : Hid (∀ k f n, If.read (s.data.toList.drop k) = .ok (f, n) → n ≤ 9000))
    (k0 : Rg.Bk w.heap.size [.int .i64 0, .int .i64 0, .int .i64 0, .int .i64 0, .bool false, .string ⟨#[]⟩] 23 ((w.alloc (.cells #[.int .i64 0, .int .i64 0, .int .i64 0, .int .i64 0, .bool false, .string ⟨#[]⟩] 23)).alloc (.cells #[.int .i64 0, .int .i64 0] 33))) (k1 : Rg.Bk (w.heap.size + 1) [.int .i64 0, .int .i64 0] 33 ((w.alloc (.cells #[.int .i64 0, .int .i64 0, .int .i64 0, .int .i64 0, .bool false, .string ⟨#[]⟩] 23)).alloc (.cells #[.int .i64 0, .int .i64 0] 33))) (bw : Below w.heap.size w ((w.alloc (.cells #[.int .i64 0, .int .i64 0, .int .i64 0, .int .i64 0, .bool false, .string ⟨#[]⟩] 23)).alloc (.cells #[.int .i64 0, .int .i64 0] 33))) :
    Calls Try.prog 14 #[.string s] w fun e w' => e = .returned (scanV (If.scan 0 s.data.toList)) ∧ Below w.heap.size w w' := by
  go_enter Try.func14, Try.ntmps14
  go_wp2
  go_loopw [11] (fun i wr => ∃ k : Nat, k ≤ s.size ∧ i = .int .i64 k ∧ Hid (If.scan 0 s.data.toList = If.scan k (s.data.toList.drop k)) ∧ Hid (Rg.Bk w.heap.size [.int .i64 0, .int .i64 0, .int .i64 0, .int .i64 0, .bool false, .string ⟨#[]⟩] 23 wr) ∧ Hid (Rg.Bk (w.heap.size + 1) [.int .i64 0, .int .i64 0] 33 wr) ∧ Hid (Below w.heap.size w wr)) (fun i _ => s.size - (intOf i).toNat)
  case atStart => exact ⟨0, Nat.zero_le _, rfl, rfl, k0, k1, bw⟩
  case round =>
    obtain ⟨k, hk, rfl, hsc, kR0, kP0, b0⟩ := hrel
    replace kR0 := kR0.out
    replace kP0 := kP0.out
    replace b0 := b0.out
    clear k0 k1 bw
    by_cases hlt : k < s.size
    · have hcons : s.data.toList.drop k = s[k] :: s.data.toList.drop (k + 1) := If.dropc s k hlt
      have hki : (k : Int) ≤ (s.size : Int) := by omega
      have hki2 : decide ((k : Int) < (s.size : Int)) = true := by simp; omega
      have H := HR.out k
      cases hrd : If.read (s.data.toList.drop k) with
      | ok fn =>
        obtain ⟨f, n⟩ := fn
        have hn := hbig.out k f n hrd
        rw [hrd] at H
        have hfin : Hid (If.scan 0 s.data.toList = ⟨f, k, k + n, true⟩) := by
          show _ = _
          rw [hsc.out, hcons, If.scan, ← hcons, hrd]
        obtain ⟨k2, n2, a2, c2, b9, d2⟩ := f
        have H : Hid (∀ W, Calls Try.prog 12 #[.string (s.extract k s.size)] W fun e w' => e = .returned (.tuple #[.agg #[.int .i64 k2, .int .i64 n2, .int .i64 a2, .int .i64 c2, .bool b9, .string ⟨d2.toArray⟩], .int .i64 n, .int .i64 0]) ∧ Below W.heap.size W w') := H
        clear hrd hcons HR hbig hsc
        have hN : (k : Int) + (n : Int) = ((k + n : Nat) : Int) := by omega
        generalize hKN : k + n = KN at *
        replace hKN := Rg.hid hKN
        have hres : Hid (scanV (If.scan 0 s.data.toList) = .tuple #[.agg #[.int .i64 k2, .int .i64 n2, .int .i64 a2, .int .i64 c2, .bool b9, .string ⟨d2.toArray⟩], .agg #[.int .i64 k, .int .i64 KN], .bool true]) := by show _ = _; rw [hfin.out]; rfl
        clear hfin
        generalize (⟨d2.toArray⟩ : ByteArray) = D at *
        go_upto_region 5 with (go_at_call 12; refine (H.out _).mono ?_; rintro e w2 ⟨rfl, b2⟩)
        have kR := (kR0.below b2 kR0.lt).old (.cells #[.int .i64 k2, .int .i64 n2, .int .i64 a2, .int .i64 c2, .bool b9, .string D] 23)
        have kP := (kP0.below b2 kP0.lt).old (.cells #[.int .i64 k2, .int .i64 n2, .int .i64 a2, .int .i64 c2, .bool b9, .string D] 23)
        have kF : Rg.Bk w2.heap.size [.int .i64 k2, .int .i64 n2, .int .i64 a2, .int .i64 c2, .bool b9, .string D] 23 (w2.alloc (.cells #[.int .i64 k2, .int .i64 n2, .int .i64 a2, .int .i64 c2, .bool b9, .string D] 23)) := Rg.Bk.new rfl
        have bR := (b0.trans (b2.mono b0.size)).alloc (b0.trans (b2.mono b0.size)).size (.cells #[.int .i64 k2, .int .i64 n2, .int .i64 a2, .int .i64 c2, .bool b9, .string D] 23)
        clear H kR0 kP0 b0 b2
        generalize w2.alloc (.cells #[.int .i64 k2, .int .i64 n2, .int .i64 a2, .int .i64 c2, .bool b9, .string D] 23) = W3 at *
        generalize w2.heap.size = F at *
        have cR := kR.cell; have fR := kR.thaw; have zR := kR.lt; have cP := kP.cell; have fP := kP.thaw; have zP := kP.lt; have cF := kF.cell; have zF := kF.lt
        go_wp2
        have hk := ret62 kR kP hne bR (Nat.le_refl _) (Nat.le_succ _) (.int .i64 k2) (.int .i64 n2) (.int .i64 a2) (.int .i64 c2) (.bool b9) (.string D) (.int .i64 k) (.int .i64 KN)
        clear cR fR cP fP zR zP cF zF
        generalize World.setCell _ _ _ = WE at *
        obtain ⟨kE, kG, bE⟩ := hk
        have cE := kE.cell
        have cG := kG.cell
        exact bodyPost_ret (v := .tuple #[.agg #[.int .i64 k2, .int .i64 n2, .int .i64 a2, .int .i64 c2, .bool b9, .string D], .agg #[.int .i64 k, .int .i64 KN], .bool true]) (by simp [results, Try.results14, go_sem, cE, cG]) rfl ⟨by rw [hres.out], bE⟩
      | error e =>
        rw [hrd] at H
        have H : Hid (∀ W, Calls Try.prog 12 #[.string (s.extract k s.size)] W fun e' w' => e' = .returned (.tuple #[.agg #[.int .i64 0, .int .i64 0, .int .i64 0, .int .i64 0, .bool false, .string ⟨#[]⟩], .int .i64 0, .int .i64 e]) ∧ Below W.heap.size W w') := H
        by_cases he : e = 2
        · subst he
          have hres : Hid (scanV (If.scan 0 s.data.toList) = .tuple #[.agg #[.int .i64 0, .int .i64 0, .int .i64 0, .int .i64 0, .bool false, .string ⟨#[]⟩], .agg #[.int .i64 k, .int .i64 k], .bool false]) := by
            show _ = _
            rw [hsc.out, hcons, If.scan, ← hcons, hrd]
            rfl
          clear hrd hcons HR hbig hsc
          go_upto_region 5 with (go_at_call 12; refine (H.out _).mono ?_; rintro e w2 ⟨rfl, b2⟩)
          have kR := (kR0.below b2 kR0.lt).old (.cells #[.int .i64 0, .int .i64 0, .int .i64 0, .int .i64 0, .bool false, .string ⟨#[]⟩] 23)
          have kP := (kP0.below b2 kP0.lt).old (.cells #[.int .i64 0, .int .i64 0, .int .i64 0, .int .i64 0, .bool false, .string ⟨#[]⟩] 23)
          have kF : Rg.Bk w2.heap.size [.int .i64 0, .int .i64 0, .int .i64 0, .int .i64 0, .bool false, .string ⟨#[]⟩] 23 (w2.alloc (.cells #[.int .i64 0, .int .i64 0, .int .i64 0, .int .i64 0, .bool false, .string ⟨#[]⟩] 23)) := Rg.Bk.new rfl
          have bR := (b0.trans (b2.mono b0.size)).alloc (b0.trans (b2.mono b0.size)).size (.cells #[.int .i64 0, .int .i64 0, .int .i64 0, .int .i64 0, .bool false, .string ⟨#[]⟩] 23)
          clear H kR0 kP0 b0 b2
          generalize w2.alloc (.cells #[.int .i64 0, .int .i64 0, .int .i64 0, .int .i64 0, .bool false, .string ⟨#[]⟩] 23) = W3 at *
          generalize w2.heap.size = F at *
          have cR := kR.cell; have fR := kR.thaw; have zR := kR.lt; have cP := kP.cell; have fP := kP.thaw; have zP := kP.lt; have cF := kF.cell; have zF := kF.lt
          go_wp2
          have hk := ret62 kR kP hne bR (Nat.le_refl _) (Nat.le_succ _) (.int .i64 0) (.int .i64 0) (.int .i64 0) (.int .i64 0) (.bool false) (.string ⟨#[]⟩) (.int .i64 k) (.int .i64 k)
          clear cR fR cP fP zR zP cF zF
          generalize World.setCell _ _ _ = WE at *
          obtain ⟨kE, kG, bE⟩ := hk
          have cE := kE.cell
          have cG := kG.cell
          exact bodyPost_ret (v := .tuple #[.agg #[.int .i64 0, .int .i64 0, .int .i64 0, .int .i64 0, .bool false, .string ⟨#[]⟩], .agg #[.int .i64 k, .int .i64 k], .bool false]) (by simp [results, Try.results14, go_sem, cE, cG]) rfl ⟨by rw [hres.out], bE⟩
        · have he0 : ¬ e = 0 := fun h => If.read_err0 _ (by rw [← h]; exact hrd)
          have hnext : Hid (If.scan 0 s.data.toList = If.scan (k + 1) (s.data.toList.drop (k + 1))) := by
            show _ = _
            rw [hsc.out, hcons, If.scan, ← hcons, hrd]
            exact if_neg he
          have d1 : ((e : Int) == 0) = false := beq_eq_false_iff_ne.2 (by omega)
          have d2 : ((e : Int) == 2) = false := beq_eq_false_iff_ne.2 (by omega)
          clear hrd hcons HR hbig hsc he he0
          go_wp2_with (go_at_call 12; refine (H.out _).mono ?_; rintro e w2 ⟨rfl, b2⟩; have kR := Rg.hid ((kR0.below b2 kR0.lt).old (.cells #[.int .i64 0, .int .i64 0, .int .i64 0, .int .i64 0, .bool false, .string ⟨#[]⟩] 23)); have kP := Rg.hid ((kP0.below b2 kP0.lt).old (.cells #[.int .i64 0, .int .i64 0, .int .i64 0, .int .i64 0, .bool false, .string ⟨#[]⟩] 23)); have bR := Rg.hid ((b0.trans (b2.mono b0.size)).alloc (b0.trans (b2.mono b0.size)).size (.cells #[.int .i64 0, .int .i64 0, .int .i64 0, .int .i64 0, .bool false, .string ⟨#[]⟩] 23)))
          go_roundw
          case rel => exact ⟨k + 1, by omega, by go_num, hnext, kR, kP, bR⟩
          case measure => simp [intOf]; omega
    · have hks : k = s.size := by omega
      have hres : Hid (scanV (If.scan 0 s.data.toList) = .tuple #[.agg #[.int .i64 0, .int .i64 0, .int .i64 0, .int .i64 0, .bool false, .string ⟨#[]⟩], .agg #[.int .i64 s.size, .int .i64 s.size], .bool false]) := by
        show _ = _
        rw [hsc.out, List.drop_eq_nil_of_le (by rw [If.len_eq]; omega), If.scan, hks]
        rfl
      have hki2 : decide ((k : Int) < (s.size : Int)) = false := by simp; omega
      replace hks := Rg.hid hks
      clear HR hbig hsc
      have kR := kR0; have kP := kP0; have bR := b0
      have cR := kR.cell; have fR := kR.thaw; have zR := kR.lt; have cP := kP.cell; have fP := kP.thaw; have zP := kP.lt
      clear kR0 kP0 b0
      go_wp2
      have hk := ret62 kR kP hne bR (Nat.le_refl _) (Nat.le_succ _) (.int .i64 0) (.int .i64 0) (.int .i64 0) (.int .i64 0) (.bool false) (.string ⟨#[]⟩) (.int .i64 s.size) (.int .i64 s.size)
      clear cR fR cP fP zR zP
      generalize World.setCell _ _ _ = WE at *
      obtain ⟨kE, kG, bE⟩ := hk
      have cE := kE.cell
      have cG := kG.cell
      exact bodyPost_ret (v := .tuple #[.agg #[.int .i64 0, .int .i64 0, .int .i64 0, .int .i64 0, .bool false, .string ⟨#[]⟩], .agg #[.int .i64 s.size, .int .i64 s.size], .bool false]) (by simp [results, Try.results14, go_sem, cE, cG]) rfl ⟨by rw [hres.out], bE⟩
theorem iscan_any (s : ByteArray) (hs : s.size ≤ 9000) (w : World) :
    Calls Try.prog 14 #[.string s] w fun e w' => e = .returned (scanV (If.scan 0 s.data.toList)) ∧ Below w.heap.size w w' := by
  have b0 := If.below1 w (.cells #[.int .i64 0, .int .i64 0, .int .i64 0, .int .i64 0, .bool false, .string ⟨#[]⟩] 23)
  refine iscan_core s w hs (by omega) (fun k W => ?_) (fun k f n h => ?_) ((Rg.Bk.new rfl).old _) (Rg.Bk.new (by simp)) (b0.alloc b0.size _)
  · have h := iread_any (s.extract k s.size) (by rw [← If.len_eq, ext_drop, List.length_drop, If.len_eq]; unfold maxLen; omega) W
    rw [ext_drop] at h
    exact h
  · have := (If.text_read h).2.2.2
    rw [List.length_drop, If.len_eq] at this
    omega
end Go.Proofs.Ytghelhcmecmldaa
