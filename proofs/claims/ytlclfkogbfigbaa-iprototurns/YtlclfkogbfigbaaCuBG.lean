/-
  Walks of the laws of layer 12: awake. Walks of layer 12: Scan. Walks of layer 16: what was taken is noted; packets, one behind the other.
-/
import Derived.Test.YtlclfkogbfigbaaCuBF
import Derived.Test.YtlclfkogbfigbaaCuAJ
import Derived.Test.YtlclfkogbfigbaaCuBE
import Derived.WalkMore
import Derived.Deep.RegionLaw
namespace Go.Proofs.Ytlclfkogbfigbaa
open Go.RowKit
namespace If
def ex : Fr := ⟨2, 1, 2, 0, false, []⟩
theorem ex_ok : ok ex := ⟨⟨by decide, ⟨by decide, by decide⟩, ⟨by decide, by decide⟩, by decide, by decide⟩, by decide⟩
theorem ex_text : text ex = [7, 8, 16, 64, 0, 88] := by decide +kernel
end If
/-- Write of what may be, and of what may not. -/
theorem iwrite_ok {k n a c : Int} {b : Bool} {d : ByteArray} (h : If.ok ⟨k, n, a, c, b, d.data.toList⟩) (W : World) :
    Calls Try.prog 36 #[.agg #[.int .i64 k, .int .i64 n, .int .i64 a, .int .i64 c, .bool b, .string d]] W fun e w' => e = .returned (.tuple #[.string ⟨(If.text ⟨k, n, a, c, b, d.data.toList⟩).toArray⟩, .int .i64 0]) ∧ Below W.heap.size W w' := by
  have := iwrite_any k n a c b d W
  rw [If.wr_ok h] at this
  exact this
theorem iwrite_not {k n a c : Int} {b : Bool} {d : ByteArray} (h : ¬ If.ok ⟨k, n, a, c, b, d.data.toList⟩) :
    ∃ F : Nat, ((F : Int) == 0) = false ∧ ∀ W : World, Calls Try.prog 36 #[.agg #[.int .i64 k, .int .i64 n, .int .i64 a, .int .i64 c, .bool b, .string d]] W fun e w' => e = .returned (.tuple #[.string ⟨#[]⟩, .int .i64 F]) ∧ Below W.heap.size W w' := by
  obtain ⟨e1, e2⟩ := If.wr_no h
  refine ⟨(If.wr ⟨k, n, a, c, b, d.data.toList⟩).2, by rcases e2 with e2 | e2 <;> rw [e2] <;> rfl, fun W => ?_⟩
  have := iwrite_any k n a c b d W
  rw [e1] at this
  exact this
theorem If.text_size {f : If.Fr} (h : If.ok f) : (⟨(If.text f).toArray⟩ : ByteArray).size ≤ 4105 ∧ 6 ≤ (⟨(If.text f).toArray⟩ : ByteArray).size := by
  have h2 := h.2
  have := If.bsz_le f.data.length
  rw [If.size_of, If.text_len]
  omega
end Go.Proofs.Ytlclfkogbfigbaa

namespace Go.Proofs.Ytlclfkogbfigbaa
open Go.RowKit
def scanV (c : If.Sc) : Value := .tuple #[.agg #[.int .i64 c.f.kd, .int .i64 c.f.nm, .int .i64 c.f.ak, .int .i64 c.f.ch, .bool c.f.ca, .string ⟨c.f.data.toArray⟩], .agg #[.int .i64 c.a, .int .i64 c.b], .bool c.ok]
theorem If.dropc (s : ByteArray) (k : Nat) (h : k < s.size) : s.data.toList.drop k = s[k] :: s.data.toList.drop (k + 1) := by
  rw [List.drop_eq_getElem_cons (by rw [If.len_eq]; exact h)]; rfl
/-- A packet and a span, handed back. -/
theorem ret62 {w W : World} {R P B : Nat} {p0 p1 p2 p3 p4 p5 u u1 : Value} {ty ty2 : TypeId} (k : Rg.Bk R [p0, p1, p2, p3, p4, p5] ty W) (q : Rg.Bk P [u, u1] ty2 W) (hne : ¬ R = P) (hb : Below B w W) (hR : B ≤ R) (hP : B ≤ P) (v0 v1 v2 v3 v4 v5 a b : Value) :
    Rg.Bk R [v0, v1, v2, v3, v4, v5] ty ((((((((W.setCell ⟨R, 0, none⟩ v0).setCell ⟨R, 1, none⟩ v1).setCell ⟨R, 2, none⟩ v2).setCell ⟨R, 3, none⟩ v3).setCell ⟨R, 4, none⟩ v4).setCell ⟨R, 5, none⟩ v5).setCell ⟨P, 0, none⟩ a).setCell ⟨P, 1, none⟩ b) ∧
    Rg.Bk P [a, b] ty2 ((((((((W.setCell ⟨R, 0, none⟩ v0).setCell ⟨R, 1, none⟩ v1).setCell ⟨R, 2, none⟩ v2).setCell ⟨R, 3, none⟩ v3).setCell ⟨R, 4, none⟩ v4).setCell ⟨R, 5, none⟩ v5).setCell ⟨P, 0, none⟩ a).setCell ⟨P, 1, none⟩ b) ∧
    Below B w ((((((((W.setCell ⟨R, 0, none⟩ v0).setCell ⟨R, 1, none⟩ v1).setCell ⟨R, 2, none⟩ v2).setCell ⟨R, 3, none⟩ v3).setCell ⟨R, 4, none⟩ v4).setCell ⟨R, 5, none⟩ v5).setCell ⟨P, 0, none⟩ a).setCell ⟨P, 1, none⟩ b) := by
  obtain ⟨k5, o5⟩ := Rg.ret6 k rfl v0 v1 v2 v3 v4 v5
  have q5 := q.same (o5.block P (fun e => hne e.symm))
  have q7 := (q5.set 0 a).set 1 b
  have k7 := (k5.other (c := P) (i := 0) hne a).other (c := P) (i := 1) hne b
  exact ⟨k7, q7, ((hb.trans (o5.bel hR)).setCell (p := ⟨P, 0, none⟩) hP a).setCell (p := ⟨P, 1, none⟩) hP b⟩
theorem ext_drop (s : ByteArray) (k : Nat) : (s.extract k s.size).data.toList = s.data.toList.drop k := by
  by_cases hk : k ≤ s.size
  · rw [If.extract_eq s k s.size hk (Nat.le_refl _), List.take_of_length_le]
    rw [List.length_drop, If.len_eq]; exact Nat.le_refl _
  · rw [List.drop_eq_nil_of_le (by rw [If.len_eq]; omega), ByteArray.data_extract]
    apply List.eq_nil_of_length_eq_zero
    rw [Array.length_toList, Array.size_extract]
    have : s.data.size = s.size := rfl
    omega
set_option linter.unusedVariables false in
set_option maxHeartbeats 4000000 in
set_option maxRecDepth 100000 in
theorem iscan_core (s : ByteArray) (w : World) (hml : s.size ≤ 40000) (hne : ¬ w.heap.size = w.heap.size + 1)
    (HR : Hid (∀ k W, Calls Try.prog 40 #[.string (s.extract k s.size)] W fun e w' => e = .returned (If.resV (If.read (s.data.toList.drop k))) ∧ Below W.heap.size W w'))
    (hbig : Hid (∀ k f n, If.read (s.data.toList.drop k) = .ok (f, n) → n ≤ 40000))
    (k0 : Rg.Bk w.heap.size [.int .i64 0, .int .i64 0, .int .i64 0, .int .i64 0, .bool false, .string ⟨#[]⟩] 63 ((w.alloc (.cells #[.int .i64 0, .int .i64 0, .int .i64 0, .int .i64 0, .bool false, .string ⟨#[]⟩] 63)).alloc (.cells #[.int .i64 0, .int .i64 0] 68))) (k1 : Rg.Bk (w.heap.size + 1) [.int .i64 0, .int .i64 0] 68 ((w.alloc (.cells #[.int .i64 0, .int .i64 0, .int .i64 0, .int .i64 0, .bool false, .string ⟨#[]⟩] 63)).alloc (.cells #[.int .i64 0, .int .i64 0] 68))) (bw : Below w.heap.size w ((w.alloc (.cells #[.int .i64 0, .int .i64 0, .int .i64 0, .int .i64 0, .bool false, .string ⟨#[]⟩] 63)).alloc (.cells #[.int .i64 0, .int .i64 0] 68))) :
    Calls Try.prog 26 #[.string s] w fun e w' => e = .returned (scanV (If.scan 0 s.data.toList)) ∧ Below w.heap.size w w' := by
  go_enter Try.func26, Try.ntmps26
  go_wp2
  go_loopw [11] (fun i wr => ∃ k : Nat, k ≤ s.size ∧ i = .int .i64 k ∧ Hid (If.scan 0 s.data.toList = If.scan k (s.data.toList.drop k)) ∧ Hid (Rg.Bk w.heap.size [.int .i64 0, .int .i64 0, .int .i64 0, .int .i64 0, .bool false, .string ⟨#[]⟩] 63 wr) ∧ Hid (Rg.Bk (w.heap.size + 1) [.int .i64 0, .int .i64 0] 68 wr) ∧ Hid (Below w.heap.size w wr)) (fun i _ => s.size - (intOf i).toNat)
  case atStart => exact ⟨0, Nat.zero_le _, rfl, rfl, k0, k1, bw⟩
  case round =>
    obtain ⟨k, hk, rfl, hsc, kR0, kP0, b0⟩ := hrel
    replace kR0 := kR0.out
    replace kP0 := kP0.out
    replace b0 := b0.out
    clear k0 k1 bw
    by_cases hlt : k < s.size
    · have hcons : s.data.toList.drop k = s[k] :: s.data.toList.drop (k + 1) := If.dropc s k hlt
      have hki : (k : Int) ≤ (s.size : Int) := by omega
      have hki2 : decide ((k : Int) < (s.size : Int)) = true := by simp; omega
      have H := HR.out k
      cases hrd : If.read (s.data.toList.drop k) with
      | ok fn =>
        obtain ⟨f, n⟩ := fn
        have hn := hbig.out k f n hrd
        rw [hrd] at H
        have hfin : Hid (If.scan 0 s.data.toList = ⟨f, k, k + n, true⟩) := by
          show _ = _
          rw [hsc.out, hcons, If.scan, ← hcons, hrd]
        obtain ⟨k2, n2, a2, c2, b9, d2⟩ := f
        have H : Hid (∀ W, Calls Try.prog 40 #[.string (s.extract k s.size)] W fun e w' => e = .returned (.tuple #[.agg #[.int .i64 k2, .int .i64 n2, .int .i64 a2, .int .i64 c2, .bool b9, .string ⟨d2.toArray⟩], .int .i64 n, .int .i64 0]) ∧ Below W.heap.size W w') := H
        clear hrd hcons HR hbig hsc
        have hN : (k : Int) + (n : Int) = ((k + n : Nat) : Int) := by omega
        generalize hKN : k + n = KN at *
        replace hKN := Rg.hid hKN
        have hres : Hid (scanV (If.scan 0 s.data.toList) = .tuple #[.agg #[.int .i64 k2, .int .i64 n2, .int .i64 a2, .int .i64 c2, .bool b9, .string ⟨d2.toArray⟩], .agg #[.int .i64 k, .int .i64 KN], .bool true]) := by show _ = _; rw [hfin.out]; rfl
        clear hfin
        generalize (⟨d2.toArray⟩ : ByteArray) = D at *
        go_upto_region 5 with (go_at_call 40; refine (H.out _).mono ?_; rintro e w2 ⟨rfl, b2⟩)
        have kR := (kR0.below b2 kR0.lt).old (.cells #[.int .i64 k2, .int .i64 n2, .int .i64 a2, .int .i64 c2, .bool b9, .string D] 63)
        have kP := (kP0.below b2 kP0.lt).old (.cells #[.int .i64 k2, .int .i64 n2, .int .i64 a2, .int .i64 c2, .bool b9, .string D] 63)
        have kF : Rg.Bk w2.heap.size [.int .i64 k2, .int .i64 n2, .int .i64 a2, .int .i64 c2, .bool b9, .string D] 63 (w2.alloc (.cells #[.int .i64 k2, .int .i64 n2, .int .i64 a2, .int .i64 c2, .bool b9, .string D] 63)) := Rg.Bk.new rfl
        have bR := (b0.trans (b2.mono b0.size)).alloc (b0.trans (b2.mono b0.size)).size (.cells #[.int .i64 k2, .int .i64 n2, .int .i64 a2, .int .i64 c2, .bool b9, .string D] 63)
        clear H kR0 kP0 b0 b2
        generalize w2.alloc (.cells #[.int .i64 k2, .int .i64 n2, .int .i64 a2, .int .i64 c2, .bool b9, .string D] 63) = W3 at *
        generalize w2.heap.size = F at *
        have cR := kR.cell; have fR := kR.thaw; have zR := kR.lt; have cP := kP.cell; have fP := kP.thaw; have zP := kP.lt; have cF := kF.cell; have zF := kF.lt
        go_wp2
        have hk := ret62 kR kP hne bR (Nat.le_refl _) (Nat.le_succ _) (.int .i64 k2) (.int .i64 n2) (.int .i64 a2) (.int .i64 c2) (.bool b9) (.string D) (.int .i64 k) (.int .i64 KN)
        clear cR fR cP fP zR zP cF zF
        generalize World.setCell _ _ _ = WE at *
        obtain ⟨kE, kG, bE⟩ := hk
        have cE := kE.cell
        have cG := kG.cell
        exact bodyPost_ret (v := .tuple #[.agg #[.int .i64 k2, .int .i64 n2, .int .i64 a2, .int .i64 c2, .bool b9, .string D], .agg #[.int .i64 k, .int .i64 KN], .bool true]) (by simp [results, Try.results26, go_sem, cE, cG]) rfl ⟨by rw [hres.out], bE⟩
      | error e =>
        rw [hrd] at H
        have H : Hid (∀ W, Calls Try.prog 40 #[.string (s.extract k s.size)] W fun e' w' => e' = .returned (.tuple #[.agg #[.int .i64 0, .int .i64 0, .int .i64 0, .int .i64 0, .bool false, .string ⟨#[]⟩], .int .i64 0, .int .i64 e]) ∧ Below W.heap.size W w') := H
        by_cases he : e = 2
        · subst he
          have hres : Hid (scanV (If.scan 0 s.data.toList) = .tuple #[.agg #[.int .i64 0, .int .i64 0, .int .i64 0, .int .i64 0, .bool false, .string ⟨#[]⟩], .agg #[.int .i64 k, .int .i64 k], .bool false]) := by
            show _ = _
            rw [hsc.out, hcons, If.scan, ← hcons, hrd]
            rfl
          clear hrd hcons HR hbig hsc
          go_upto_region 5 with (go_at_call 40; refine (H.out _).mono ?_; rintro e w2 ⟨rfl, b2⟩)
          have kR := (kR0.below b2 kR0.lt).old (.cells #[.int .i64 0, .int .i64 0, .int .i64 0, .int .i64 0, .bool false, .string ⟨#[]⟩] 63)
          have kP := (kP0.below b2 kP0.lt).old (.cells #[.int .i64 0, .int .i64 0, .int .i64 0, .int .i64 0, .bool false, .string ⟨#[]⟩] 63)
          have kF : Rg.Bk w2.heap.size [.int .i64 0, .int .i64 0, .int .i64 0, .int .i64 0, .bool false, .string ⟨#[]⟩] 63 (w2.alloc (.cells #[.int .i64 0, .int .i64 0, .int .i64 0, .int .i64 0, .bool false, .string ⟨#[]⟩] 63)) := Rg.Bk.new rfl
          have bR := (b0.trans (b2.mono b0.size)).alloc (b0.trans (b2.mono b0.size)).size (.cells #[.int .i64 0, .int .i64 0, .int .i64 0, .int .i64 0, .bool false, .string ⟨#[]⟩] 63)
          clear H kR0 kP0 b0 b2
          generalize w2.alloc (.cells #[.int .i64 0, .int .i64 0, .int .i64 0, .int .i64 0, .bool false, .string ⟨#[]⟩] 63) = W3 at *
          generalize w2.heap.size = F at *
          have cR := kR.cell; have fR := kR.thaw; have zR := kR.lt; have cP := kP.cell; have fP := kP.thaw; have zP := kP.lt; have cF := kF.cell; have zF := kF.lt
          go_wp2
          have hk := ret62 kR kP hne bR (Nat.le_refl _) (Nat.le_succ _) (.int .i64 0) (.int .i64 0) (.int .i64 0) (.int .i64 0) (.bool false) (.string ⟨#[]⟩) (.int .i64 k) (.int .i64 k)
          clear cR fR cP fP zR zP cF zF
          generalize World.setCell _ _ _ = WE at *
          obtain ⟨kE, kG, bE⟩ := hk
          have cE := kE.cell
          have cG := kG.cell
          exact bodyPost_ret (v := .tuple #[.agg #[.int .i64 0, .int .i64 0, .int .i64 0, .int .i64 0, .bool false, .string ⟨#[]⟩], .agg #[.int .i64 k, .int .i64 k], .bool false]) (by simp [results, Try.results26, go_sem, cE, cG]) rfl ⟨by rw [hres.out], bE⟩
        · have he0 : ¬ e = 0 := fun h => If.read_err0 _ (by rw [← h]; exact hrd)
          have hnext : Hid (If.scan 0 s.data.toList = If.scan (k + 1) (s.data.toList.drop (k + 1))) := by
            show _ = _
            rw [hsc.out, hcons, If.scan, ← hcons, hrd]
            exact if_neg he
          have d1 : ((e : Int) == 0) = false := beq_eq_false_iff_ne.2 (by omega)
          have d2 : ((e : Int) == 2) = false := beq_eq_false_iff_ne.2 (by omega)
          clear hrd hcons HR hbig hsc he he0
          go_wp2_with (go_at_call 40; refine (H.out _).mono ?_; rintro e w2 ⟨rfl, b2⟩; have kR := Rg.hid ((kR0.below b2 kR0.lt).old (.cells #[.int .i64 0, .int .i64 0, .int .i64 0, .int .i64 0, .bool false, .string ⟨#[]⟩] 63)); have kP := Rg.hid ((kP0.below b2 kP0.lt).old (.cells #[.int .i64 0, .int .i64 0, .int .i64 0, .int .i64 0, .bool false, .string ⟨#[]⟩] 63)); have bR := Rg.hid ((b0.trans (b2.mono b0.size)).alloc (b0.trans (b2.mono b0.size)).size (.cells #[.int .i64 0, .int .i64 0, .int .i64 0, .int .i64 0, .bool false, .string ⟨#[]⟩] 63)))
          go_roundw
          case rel => exact ⟨k + 1, by omega, by go_num, hnext, kR, kP, bR⟩
          case measure => simp [intOf]; omega
    · have hks : k = s.size := by omega
      have hres : Hid (scanV (If.scan 0 s.data.toList) = .tuple #[.agg #[.int .i64 0, .int .i64 0, .int .i64 0, .int .i64 0, .bool false, .string ⟨#[]⟩], .agg #[.int .i64 s.size, .int .i64 s.size], .bool false]) := by
        show _ = _
        rw [hsc.out, List.drop_eq_nil_of_le (by rw [If.len_eq]; omega), If.scan, hks]
        rfl
      have hki2 : decide ((k : Int) < (s.size : Int)) = false := by simp; omega
      replace hks := Rg.hid hks
      clear HR hbig hsc
      have kR := kR0; have kP := kP0; have bR := b0
      have cR := kR.cell; have fR := kR.thaw; have zR := kR.lt; have cP := kP.cell; have fP := kP.thaw; have zP := kP.lt
      clear kR0 kP0 b0
      go_wp2
      have hk := ret62 kR kP hne bR (Nat.le_refl _) (Nat.le_succ _) (.int .i64 0) (.int .i64 0) (.int .i64 0) (.int .i64 0) (.bool false) (.string ⟨#[]⟩) (.int .i64 s.size) (.int .i64 s.size)
      clear cR fR cP fP zR zP
      generalize World.setCell _ _ _ = WE at *
      obtain ⟨kE, kG, bE⟩ := hk
      have cE := kE.cell
      have cG := kG.cell
      exact bodyPost_ret (v := .tuple #[.agg #[.int .i64 0, .int .i64 0, .int .i64 0, .int .i64 0, .bool false, .string ⟨#[]⟩], .agg #[.int .i64 s.size, .int .i64 s.size], .bool false]) (by simp [results, Try.results26, go_sem, cE, cG]) rfl ⟨by rw [hres.out], bE⟩
theorem iscan_any (s : ByteArray) (hs : s.size ≤ 40000) (w : World) :
    Calls Try.prog 26 #[.string s] w fun e w' => e = .returned (scanV (If.scan 0 s.data.toList)) ∧ Below w.heap.size w w' := by
  have b0 := If.below1 w (.cells #[.int .i64 0, .int .i64 0, .int .i64 0, .int .i64 0, .bool false, .string ⟨#[]⟩] 63)
  refine iscan_core s w hs (by omega) (fun k W => ?_) (fun k f n h => ?_) ((Rg.Bk.new rfl).old _) (Rg.Bk.new (by simp)) (b0.alloc b0.size _)
  · have h := iread_any (s.extract k s.size) (by rw [← If.len_eq, ext_drop, List.length_drop, If.len_eq]; unfold maxLen; omega) W
    rw [ext_drop] at h
    exact h
  · have := (If.text_read h).2.2.2
    rw [List.length_drop, If.len_eq] at this
    omega
end Go.Proofs.Ytlclfkogbfigbaa

namespace Go.Proofs.Ytlclfkogbfigbaa
open Go.RowKit
/-- what an append to Took leaves -/
structure Took2 (Kp : Nat → Prop) (eb : Nat) (W : World) (d : Gp.Dr) (p : Pl) (q : Qv) (S : List UInt8) (C : List Gp.Pc) (x y : Int) (n1 : Nat) (v' : Value) (W2 : World) : Prop where
  v : ∃ g cap, v' = .slice (some ⟨g, 0, none⟩) n1 cap ∧ IAt Kp (W2.setCell ⟨eb, 17, none⟩ (.slice (some ⟨g, 0, none⟩) n1 cap)) eb { d with took := d.took ++ [(x, y)] } { p with t := some ⟨g, 0, none⟩, tc := cap } q S C
  bel : Below eb W W2
  c17 : W2.cell? ⟨eb, 17, none⟩ = some (.slice p.t d.took.length p.tc)
  fz : ∀ i, W2.frozen? ⟨eb, i, none⟩ = false
  bk : Rg.Bk eb (IC d p q) 51 W2
  keep : ∀ k, k < W.heap.size → (Value.slice p.t d.took.length p.tc).ownBlock ≠ some k → W2.heap[k]? = W.heap[k]?
theorem IAt.pushT {W1 : World} {Kp : Nat → Prop} {W : World} {eb : Nat} {d : Gp.Dr} {p : Pl} {q : Qv} {S : List UInt8} {C : List Gp.Pc} (h : IAt Kp W eb d p q S C) (hb : Below W.heap.size W W1) (x y : Int) (ad : Addr) (c n n1 : Nat) (hnn : d.took.length = n) (hn1 : n + 1 = n1) (k0 : W1.cell? ad = some (.int .i64 x)) (k1 : W1.cell? (ad.add 1) = some (.int .i64 y)) (hn : n ≤ 1000000) :
    ∃ v' W2, (Builtin.append_ #[30, 30] 30 #[.slice p.t n p.tc, .slice (some ad) 1 c]).run Try.prog W1 = .ok v' W2 ∧ Took2 Kp eb W d p q S C x y n1 v' W2 := by
  subst hnn hn1
  have h1 := h.below hb
  obtain ⟨g', cap', W2, r1, r2, r3, r4⟩ := span_append h1.took (x, y) ad c (fun j u hj => by
    match j, hj with
    | 0, hj => simp [spE] at hj; subst hj; rw [show ad.add 0 = ad from rfl]; exact k0
    | 1, hj => simp [spE] at hj; subst hj; exact k1) (Nat.le_of_lt h1.bk.lt) hn
  have hebne := own_ne h1.took h1.bk (by decide) (e := 0) rfl
  have hk2 : Rg.Bk eb (IC d p q) 51 W2 := h1.bk.same (r3.block eb h1.bk.lt (fun e => hebne e.symm))
  have hlow : ∀ k, k < eb → (Value.slice p.t d.took.length p.tc).ownBlock ≠ some k := fun k hk e => by have := (h1.took.lt k e).1; omega
  have hbel : Below eb W1 W2 := ⟨r3.os, r3.tape, r3.output, r3.size, fun k hk => r3.block k (Nat.lt_trans hk h1.bk.lt) (fun e => hlow k hk e.symm)⟩
  refine ⟨_, W2, r1, ⟨⟨g', cap', rfl, ?_⟩, (hb.mono (Nat.le_of_lt h.bk.lt)).trans hbel, hk2.cell 17, hk2.thaw, hk2, fun k hk hne => ?_⟩⟩
  · obtain ⟨w5, hw5⟩ : ∃ w5, w5 = W2.setCell ⟨eb, 17, none⟩ (.slice (some ⟨g', 0, none⟩) (d.took.length + 1) cap') := ⟨_, rfl⟩
    rw [← hw5]
    have hk5 : ∀ k, k ≠ eb → w5.heap[k]? = W2.heap[k]? := fun k hk => by rw [hw5]; exact Below.heap_setCell _ _ _ _ hk
    have hb5 : Below eb W1 w5 := by rw [hw5]; exact hbel.setCell (p := ⟨eb, 17, none⟩) (Nat.le_refl _) _
    have hkk : ∀ k, k < W1.heap.size → k ≠ eb → (∀ v ∈ ivs d p q, v.ownBlock ≠ some k) → w5.heap[k]? = W1.heap[k]? := fun k hk hke hv => by
      rw [hk5 k hke]
      exact r3.block k hk (fun e => hv _ (show Value.slice p.t d.took.length p.tc ∈ ivs d p q by simp [ivs]) e.symm)
    have hvv : ∀ z ∈ ivs { d with took := d.took ++ [(x, y)] } { p with t := some ⟨g', 0, none⟩, tc := cap' } q, ∀ g, z.ownBlock = some g → (∃ v ∈ ivs d p q, v.ownBlock = some g) ∨ W1.heap.size ≤ g := by
      intro z hm g hg
      simp only [ivs, List.mem_cons, List.not_mem_nil, or_false] at hm
      rcases hm with rfl | rfl | rfl | rfl
      · exact .inl ⟨q.sb, by simp [ivs], hg⟩
      · exact .inl ⟨q.cv, by simp [ivs], hg⟩
      · simp [Value.ownBlock] at hg
        subst hg
        rcases r4 with e | e
        · exact .inl ⟨.slice p.t d.took.length p.tc, by simp [ivs], e⟩
        · exact .inr e
      · exact .inl ⟨tok q.ag, by simp [ivs], hg⟩
    have hbk2 : Rg.Bk eb (IC { d with took := d.took ++ [(x, y)] } { p with t := some ⟨g', 0, none⟩, tc := cap' } q) 51 w5 := by
      rw [hw5]
      have := hk2.set 17 (.slice (some ⟨g', 0, none⟩) (d.took.length + 1) cap')
      have e : IC { d with took := d.took ++ [(x, y)] } { p with t := some ⟨g', 0, none⟩, tc := cap' } q = (IC d p q).set 17 (.slice (some ⟨g', 0, none⟩) (d.took.length + 1) cap') := by
        show IC _ _ _ = _
        unfold IC
        simp [List.set]
      rw [e]; exact this
    have hgk : ∀ {g : Nat} {cs : Array Value} {T : TypeId} {fz : Nat × Nat}, W1.heap[g]? = some (.cells cs T fz) → T ≠ 68 → g ≠ eb → w5.heap[g]? = W1.heap[g]? := fun {g cs T fz} hg hT hge => by
      rw [hk5 g hge]
      refine r3.block g (Array.getElem?_eq_some_iff.1 hg).1 (fun e => ?_)
      exact own_ne h1.took hg (Ne.symm hT) (e := 0) rfl e.symm
    refine ⟨hbk2, h1.win.kept hb5 hkk hvv, h.wcap, ?_, h.acap, h1.queue.kept hb5 hkk hvv, ?_, h.sa, ?_, ?_⟩
    · rcases h1.ahead with ⟨e, ha⟩ | ⟨g, e, ha⟩
      · exact .inl ⟨e, ha.kept hb5 hkk hvv⟩
      · refine .inr ⟨g, e, ?_⟩
        have ha0 := ha
        obtain ⟨hlt, o, cur, _, h3, _⟩ := ha0
        exact ha.kept (hgk h3 (by decide) (by omega))
    · have e3 : (d.took ++ [(x, y)]).length = d.took.length + 1 := by simp
      show World.ownsRow _ eb 68 2 (.slice (some ⟨g', 0, none⟩) (d.took ++ [(x, y)]).length cap') (d.took ++ [(x, y)]).length (spE.flat (d.took ++ [(x, y)]))
      rw [e3]
      refine own_kept r2 fun g hg => hk5 g (fun e => ?_)
      simp [Value.ownBlock] at hg
      subst hg
      rcases r4 with e2 | e2
      · rw [e] at e2; exact hebne e2
      · have := h1.bk.lt; omega
    · refine h1.said.kept fun g hg => ?_
      have hlt := h1.vs _ (show q.sb ∈ ivs d p q by simp [ivs]) g hg
      obtain ⟨cs, fz, hT⟩ := Lib.ownsRowF_kind h1.said.own g hg
      exact hgk hT (by decide) (by omega)
    · refine own_kept h1.came fun g hg => ?_
      have hlt := h1.vs _ (show q.cv ∈ ivs d p q by simp [ivs]) g hg
      rcases h1.came.2 with ⟨e, _⟩ | ⟨g2, cap, cur, e, _, hgg, _⟩
      · rw [e] at hg; simp [Value.ownBlock] at hg
      · rw [e] at hg
        simp [Value.ownBlock] at hg
        subst hg
        exact hgk hgg (by decide) (by omega)
  · rw [r3.block k (Nat.lt_of_lt_of_le hk hb.size) (fun e => hne e.symm)]
    exact hb.block k hk
/-- what a round of takePackets finds -/
structure TJ (Kp : Nat → Prop) (eb : Nat) (d1 : Gp.Dr) (L0 : Nat) (S0 : List UInt8) (C0 : List Gp.Pc) (W wr : World) (dm : Gp.Dr) (p : Pl) (q : Qv) (Si : List UInt8) (Ci : List Gp.Pc) (f : Nat) : Prop where
  at_ : IAt Kp wr eb dm p q Si Ci
  ow : IOw dm p q
  bel : Below eb W wr
  math : ∃ out came, Si = S0 ++ out ∧ Ci = C0 ++ came ∧ Ip.feedN f dm out came = Ip.feedN (L0 + 1) d1 [] []
  rt : Ip.right dm
  fuel : dm.buf.length < f
  mx : dm.at_ + dm.buf.length ≤ 1099511627776
  bl : dm.buf.length ≤ L0
  ls : Si.length ≤ S0.length + 4200 * (L0 - dm.buf.length)
  lc : Ci.length ≤ C0.length + 16 * (L0 - dm.buf.length)
  lt : dm.took.length ≤ L0 - dm.buf.length
/-- the drive behind what was found is noted, and cut off -/
def Ip.noted (d : Gp.Dr) : Gp.Dr := { d with took := d.took ++ [(d.at_ + ((If.scan 0 d.buf).a : Int), d.at_ + ((If.scan 0 d.buf).b : Int))], buf := d.buf.drop (If.scan 0 d.buf).b, at_ := d.at_ + ((If.scan 0 d.buf).b : Int) }
theorem iright_noted {d : Gp.Dr} (h : Ip.right d) (ha : d.at_ + d.buf.length ≤ 1099511627776) (hs : (If.scan 0 d.buf).ok = true) : Ip.right (Ip.noted d) ∧ If.ok (If.scan 0 d.buf).f ∧ (If.scan 0 d.buf).b ≤ d.buf.length ∧ 6 ≤ (If.scan 0 d.buf).b ∧ (If.scan 0 d.buf).a ≤ (If.scan 0 d.buf).b := by
  obtain ⟨i, n, h1, h2, h3, h4, h5⟩ := Ip.scan_yes d.buf 0 hs
  have hat : d.at_ + ((If.scan 0 d.buf).b : Int) = d.at_ + ((i + n : Nat) : Int) := by rw [h2]; omega
  have b := h.1
  have ba := b.at_
  exact ⟨⟨⟨b.lt, b.sz, b.rm, b.wn, ⟨by show 0 ≤ d.at_ + _; omega, by show d.at_ + _ ≤ _; rw [hat]; omega⟩, b.wt, b.tr, b.qu, b.wi, b.ah⟩, by
    rcases h.2 with x | ⟨x, y⟩ | x | x | x
    · exact .inl x
    · exact .inr (.inl ⟨x, ⟨y.st, y.md, y.ws, y.bs, y.ln⟩⟩)
    · exact .inr (.inr (.inl x))
    · exact .inr (.inr (.inr (.inl x)))
    · exact .inr (.inr (.inr (.inr x)))⟩, (If.text_read h3).1, by omega, by omega, by omega⟩
/-- a packet was taken -/
theorem TJ.next {Kp : Nat → Prop} {eb : Nat} {d1 : Gp.Dr} {L0 : Nat} {S0 : List UInt8} {C0 : List Gp.Pc} {W wr : World} {dm : Gp.Dr} {p : Pl} {q : Qv} {Si : List UInt8} {Ci : List Gp.Pc} {f : Nat} (h : TJ Kp eb d1 L0 S0 C0 W wr dm p q Si Ci f) (hs : (If.scan 0 dm.buf).ok = true) {w2 : World} (hb : Below eb W w2) {p' : Pl} {q' : Qv}
    (he : IAt Kp w2 eb (Ip.takes (Ip.noted dm) (If.scan 0 dm.buf).f).1 p' q' (Si ++ (Ip.takes (Ip.noted dm) (If.scan 0 dm.buf).f).2.1) (Ci ++ (Ip.takes (Ip.noted dm) (If.scan 0 dm.buf).f).2.2)) (ho : IOw (Ip.takes (Ip.noted dm) (If.scan 0 dm.buf).f).1 p' q') :
    (∃ f', TJ Kp eb d1 L0 S0 C0 W w2 (Ip.takes (Ip.noted dm) (If.scan 0 dm.buf).f).1 p' q' (Si ++ (Ip.takes (Ip.noted dm) (If.scan 0 dm.buf).f).2.1) (Ci ++ (Ip.takes (Ip.noted dm) (If.scan 0 dm.buf).f).2.2) f') ∧ (Ip.takes (Ip.noted dm) (If.scan 0 dm.buf).f).1.buf.length < dm.buf.length := by
  obtain ⟨hr, hok, hle, h6, _⟩ := iright_noted h.rt h.mx hs
  have hT := Ip.right_takes hr hok
  have hK := Ip.takes_keeps (Ip.noted dm) (If.scan 0 dm.buf).f
  have hL := Ip.takes_len hr (If.scan 0 dm.buf).f
  have hbl : (Ip.noted dm).buf.length = dm.buf.length - (If.scan 0 dm.buf).b := by show (dm.buf.drop _).length = _; rw [List.length_drop]
  have hat : (Ip.noted dm).at_ = dm.at_ + ((If.scan 0 dm.buf).b : Int) := rfl
  obtain ⟨out, came, e1, e2, e3⟩ := h.math
  have hf := h.fuel
  obtain ⟨f', rfl⟩ : ∃ f', f = f' + 1 := ⟨f - 1, by omega⟩
  have hm := h.mx
  have hbl0 := h.bl
  have hls := h.ls
  have hlc := h.lc
  have hlt := h.lt
  have h1 := hL.1
  have h2 := hL.2
  refine ⟨⟨f', he, ho, hb, ⟨_, _, by rw [e1, List.append_assoc], by rw [e2, List.append_assoc], ?_⟩, hT, by rw [hK.2.1, hbl]; omega, by rw [hK.1, hK.2.1, hbl, hat]; omega, by rw [hK.2.1, hbl]; omega, ?_, ?_, ?_⟩, by rw [hK.2.1, hbl]; omega⟩
  · rw [← e3]
    conv => rhs; unfold Ip.feedN
    dsimp only
    rw [if_pos hs]
    rfl
  · rw [List.length_append, hK.2.1, hbl]; omega
  · rw [List.length_append, hK.2.1, hbl]; omega
  · rw [hK.2.2.2, hK.2.1, hbl]
    show (dm.took ++ [_]).length ≤ _
    rw [List.length_append, List.length_singleton]
    omega
/-- no packet is found any more -/
theorem TJ.stop {Kp : Nat → Prop} {eb : Nat} {d1 : Gp.Dr} {L0 : Nat} {S0 : List UInt8} {C0 : List Gp.Pc} {W wr : World} {dm : Gp.Dr} {p : Pl} {q : Qv} {Si : List UInt8} {Ci : List Gp.Pc} {f : Nat} (h : TJ Kp eb d1 L0 S0 C0 W wr dm p q Si Ci f) (hs : (If.scan 0 dm.buf).ok = false) :
    Ip.feedN (L0 + 1) d1 [] [] = ({ dm with buf := dm.buf.drop (If.scan 0 dm.buf).a, at_ := dm.at_ + ((If.scan 0 dm.buf).a : Int) }, (Ip.feedN (L0 + 1) d1 [] []).2) ∧ Si = S0 ++ (Ip.feedN (L0 + 1) d1 [] []).2.1 ∧ Ci = C0 ++ (Ip.feedN (L0 + 1) d1 [] []).2.2 := by
  obtain ⟨out, came, e1, e2, e3⟩ := h.math
  have hf := h.fuel
  obtain ⟨f', rfl⟩ : ∃ f', f = f' + 1 := ⟨f - 1, by omega⟩
  rw [← e3]
  unfold Ip.feedN
  dsimp only
  rw [if_neg (by simp [hs])]
  exact ⟨rfl, e1, e2⟩
/-- how many bytes are kept, as the cell tells -/
def ibufLen (eb : Nat) (wr : World) : Nat := match wr.cell? ⟨eb, 12, none⟩ with
  | some (.string s) => s.size
  | _ => 0
theorem IAt.bufLen {Kp : Nat → Prop} {W : World} {eb : Nat} {d : Gp.Dr} {p : Pl} {q : Qv} {S : List UInt8} {C : List Gp.Pc} (h : IAt Kp W eb d p q S C) : ibufLen eb W = d.buf.length := by
  have e : W.cell? ⟨eb, 12, none⟩ = some (.string ⟨d.buf.toArray⟩) := h.bk.cell 12
  unfold ibufLen
  rw [e]
  exact isize_bytes d.buf
end Go.Proofs.Ytlclfkogbfigbaa
