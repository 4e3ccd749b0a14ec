/-
  Walks of layer 16: takeData whole, takeOther, take.
-/
import Derived.Test.YtlclfkogbfigbaaCuBC
namespace Go.Proofs.Ytlclfkogbfigbaa
open Go.RowKit
set_option maxHeartbeats 2000000 in
set_option maxRecDepth 100000 in
theorem iacknowledge_goF {Kp : Nat → Prop} {W : World} {eb : Nat} {d : Gp.Dr} {p : Pl} {q : Qv} {S : List UInt8} {C : List Gp.Pc} (h : IAt Kp W eb d p q S C) (n : Int) (X : Wn.W) (K xn : Nat) (hxn : Hid (X.l.length = xn)) (bK : Bool) (hK : decide (0 < K) = bK) (Post : Ending → World → Prop) (ln : Nat) (hln : Hid (d.win.l.length = ln))
    (HA : Hid (Calls Try.prog 76 #[.agg #[.int .i64 d.win.md, .int .i64 d.win.sz, .int .i64 d.win.bs, .slice p.w ln p.wc], .int .i64 n] W fun e w' => ∃ a c, e = .returned (.tuple #[.agg #[.int .i64 X.md, .int .i64 X.sz, .int .i64 X.bs, .slice a xn c], .int .i64 (K : Int)]) ∧ Hid (IAt Kp w' eb d p q S C) ∧ Hid (Fr eb eb W w') ∧ Hid (TRow Kp strE eb eb (ivs d p q) w' a X.l) ∧ Hid (X.l.length ≤ c)))
    (HP : Hid (∀ W1 aa cc, IAt Kp W1 eb { d with win := X, tries := if 0 < K then 0 else d.tries } { p with w := aa, wc := cc } q S C → Fr eb eb W W1 → Post (.returned (.tuple #[])) W1)) :
    Calls Try.prog 63 #[.pointer (some ⟨eb, 0, none⟩), .int .i64 n] W Post := by
  have c6 : W.cell? ⟨eb, 6, none⟩ = some (.int .i64 d.win.md) := h.bk.cell 6
  have c7 : W.cell? ⟨eb, 7, none⟩ = some (.int .i64 d.win.sz) := h.bk.cell 7
  have c8 : W.cell? ⟨eb, 8, none⟩ = some (.int .i64 d.win.bs) := h.bk.cell 8
  have c9 : W.cell? ⟨eb, 9, none⟩ = some (.slice p.w ln p.wc) := by rw [← hln.out]; exact h.bk.cell 9
  have hK1 : decide ((0 : Int) < (K : Int)) = bK := by rw [← hK]; simp
  generalize d.win.md = wm at *
  generalize d.win.sz = ws at *
  generalize d.win.bs = wb at *
  clear h
  go_enter Try.func63, Try.ntmps63
  go_upto_region 2 with (go_at_call 76; refine HA.out.mono ?_; rintro e w2 ⟨a, c, rfl, h2, f2, hr, hc⟩; have e6 : w2.cell? ⟨eb, 6, none⟩ = some (.int .i64 d.win.md) := h2.out.bk.cell 6; have e7 : w2.cell? ⟨eb, 7, none⟩ = some (.int .i64 d.win.sz) := h2.out.bk.cell 7; have e8 : w2.cell? ⟨eb, 8, none⟩ = some (.int .i64 d.win.bs) := h2.out.bk.cell 8; have e9 : w2.cell? ⟨eb, 9, none⟩ = some (.slice p.w d.win.l.length p.wc) := h2.out.bk.cell 9; have fz := h2.out.bk.thaw)
  have hw := Rg.hid (h2.out.setW X a c hr.out hc.out)
  rw [hxn.out] at hw
  have hf3 := Rg.hid (f2.out.trans (Fr.setI w2 X.md X.sz X.bs (.slice a xn c)))
  unfold SetI at hw hf3
  generalize World.setCell _ _ _ = w3 at *
  have f3 := hf3
  have h3 := Rg.hid hw.out.1
  clear e6 e7 e8 e9 fz c6 c7 c8 c9 HA h2 hw hr hc f2
  cases bK with
  | true =>
    have hK2 : 0 < K := of_decide_eq_true hK
    have c16 : w3.cell? ⟨eb, 16, none⟩ = some (.int .i64 d.tries) := h3.out.bk.cell 16
    have fz := h3.out.bk.thaw
    have h4 := Rg.hid (h3.out.upd 16 (.int .i64 0) { d with win := X, tries := 0 } rfl rfl rfl rfl rfl)
    have f4 := Rg.hid (f3.out.trans (Fr.set (Nat.le_refl _) 16 (.int .i64 0)))
    clear h3 f3
    go_wp2
    generalize World.setCell _ _ _ = w4 at *
    go_end0
    exact HP.out w4 a c (by rw [if_pos hK2]; exact h4.out) f4.out
  | false =>
    have hK2 : ¬ 0 < K := of_decide_eq_false hK
    go_wp2
    go_end0
    exact HP.out w3 a c (by rw [if_neg hK2]; exact h3.out) f3.out
theorem iacknowledge_f {Kp : Nat → Prop} {W : World} {eb : Nat} {d : Gp.Dr} {p : Pl} {q : Qv} {S : List UInt8} {C : List Gp.Pc} (h : IAt Kp W eb d p q S C) (n : Int) :
    Calls Try.prog 63 #[.pointer (some ⟨eb, 0, none⟩), .int .i64 n] W fun e w' => e = .returned (.tuple #[]) ∧ ∃ a c, IAt Kp w' eb (Gp.acked d n) { p with w := a, wc := c } q S C ∧ Fr eb eb W w' := by
  refine iacknowledge_goF h n (Wn.ack d.win n).1 (Wn.ack d.win n).2 _ rfl _ rfl _ _ rfl ?_ (fun W1 aa cc h1 f1 => ⟨rfl, aa, cc, h1, f1⟩)
  refine (ack_anyN d.win p.w p.wc n W ⟨h.win.e, h.wcap⟩).mono fun e w' ⟨a, c, h1, h2, h3, h4⟩ => ⟨a, c, h1, h.below h3, Fr.of h3 (Nat.le_of_lt h.bk.lt), ?_, h2.cap⟩
  rcases h4 with ⟨e1, e2, e3⟩ | h4
  · rw [e1, e2]; exact (h.below h3).win
  · exact h.row h2.row h4
/-- what a method leaves that takes a packet -/
def IPC (Kp : Nat → Prop) (eb : Nat) (W : World) (r : Gp.Dr × List UInt8 × List Gp.Pc) (S : List UInt8) (C : List Gp.Pc) (e : Ending) (w' : World) : Prop := e = .returned (.tuple #[]) ∧ ∃ p q, IAt Kp w' eb r.1 p q (S ++ r.2.1) (C ++ r.2.2) ∧ IOw r.1 p q ∧ Below eb W w'
theorem IPO.c {Kp : Nat → Prop} {eb : Nat} {W : World} {d : Gp.Dr} {o : List UInt8} {S : List UInt8} {C : List Gp.Pc} {e : Ending} {w' : World} (h : IPO Kp eb W d (S ++ o) C e w') : IPC Kp eb W (d, o, []) S C e w' := by
  obtain ⟨h1, p, q, h2, h3, h4⟩ := h
  exact ⟨h1, p, q, by rw [List.append_nil]; exact h2, h3, h4⟩
theorem IPC.from {Kp : Nat → Prop} {eb : Nat} {W W1 : World} {r : Gp.Dr × List UInt8 × List Gp.Pc} {S : List UInt8} {C : List Gp.Pc} {e : Ending} {w' : World} (h : IPC Kp eb W1 r S C e w') (f : Below eb W W1) : IPC Kp eb W r S C e w' := by
  obtain ⟨h1, p, q, h2, h3, h4⟩ := h
  exact ⟨h1, p, q, h2, h3, f.trans h4⟩
theorem itakeData_any {Kp : Nat → Prop} {W : World} {eb : Nat} {d : Gp.Dr} {p : Pl} {q : Qv} {S : List UInt8} {C : List Gp.Pc} (h : IAt Kp W eb d p q S C) (ho : IOw d p q) (hb : Ip.base d) (f : If.Fr) (hf : 0 ≤ f.nm ∧ f.nm ≤ 31) (hd : f.data ≠ []) (hC : C.length ≤ 900000) (hlen : S.length + 6 ≤ 140737488355328) :
    Calls Try.prog 65 #[.pointer (some ⟨eb, 0, none⟩), .agg #[.int .i64 f.kd, .int .i64 f.nm, .int .i64 f.ak, .int .i64 f.ch, .bool f.ca, .string ⟨f.data.toArray⟩]] W fun e w' => IPC Kp eb W (Ip.orders d f) S C e w' := by
  have hE := Ip.early_lt hb.wn hf
  have hD : ((⟨f.data.toArray⟩ : ByteArray).toList == []) = false := ne_nil (by rw [Ip.size_bytes]; exact fun e => hd (List.length_eq_zero_iff.1 e))
  have hn15 : d.ahead.length ≤ 15 := by have := Ip.ok_len (by omega) hb.ah; omega
  obtain ⟨kd, nm, ak, ch, ca, data⟩ := f
  dsimp only at hE hD ⊢
  unfold Ip.orders
  dsimp only
  by_cases k0 : Ip.early d.wants nm = 0
  · rw [if_pos k0]
    refine itakeData_come h kd nm ak ch ca _ _ k0 _ hD rfl ho hb.wn hn15 hC _ rfl fun W1 d1 p1 q1 l1 hR h1 o1 w1 f1 => ?_
    rw [← hR]
    exact IPO.go f1 o1 (isayAck_any h1 w1 hlen) |>.mono fun e w' ⟨x1, x2⟩ => ⟨x1, by obtain ⟨_, p2, q2, y1, y2, y3⟩ := x2; exact ⟨rfl, p2, q2, y1, y2, y3⟩⟩
  rw [if_neg k0]
  have d1 : (Ip.early d.wants nm == 0) = false := beq_eq_false_iff_ne.2 k0
  by_cases k15 : Ip.early d.wants nm ≤ 15
  · rw [if_pos k15]
    have hK : ∀ W1, IAt Kp W1 eb d p q S C → Below eb W W1 → Calls Try.prog 80 #[.pointer (some ⟨eb, 0, none⟩), .agg #[.int .i64 kd, .int .i64 nm, .int .i64 ak, .int .i64 ch, .bool ca, .string ⟨data.toArray⟩]] W1 fun e w' => e = .returned (.tuple #[]) ∧ Hid (∃ p' q', IAt Kp w' eb { d with ahead := Ip.ins d.wants (Ip.toFi ⟨kd, nm, ak, ch, ca, data⟩) d.ahead } p' q' S C ∧ IOw { d with ahead := Ip.ins d.wants (Ip.toFi ⟨kd, nm, ak, ch, ca, data⟩) d.ahead } p' q' ∧ Below eb W w') := fun W1 h1 f1 => (ikeep_any h1 ho hb ⟨kd, nm, ak, ch, ca, ⟨data.toArray⟩⟩ (by show 1 ≤ Ip.early d.wants nm; omega) k15).mono fun e w' ⟨x1, p', q', x2, x3, x4⟩ => ⟨x1, p', q', x2, x3, f1.trans x4⟩
    by_cases hw : d.wait % 2 = 1
    · rw [if_pos hw]
      refine itakeData_keep0 h kd nm ak ch ca _ _ rfl _ hD d1 (by simpa using k15) (fun w' => ∃ p' q', IAt Kp w' eb { d with ahead := Ip.ins d.wants (Ip.toFi ⟨kd, nm, ak, ch, ca, data⟩) d.ahead } p' q' S C ∧ IOw { d with ahead := Ip.ins d.wants (Ip.toFi ⟨kd, nm, ak, ch, ca, data⟩) d.ahead } p' q' ∧ Below eb W w') hK fun W1 hq => ?_
      obtain ⟨p', q', h1, o1, f1⟩ := hq
      exact (imayRepeat_n h1 hb.wt hw).mono fun e w' ⟨x1, x2⟩ => ⟨x1, rfl, p', q', by rw [x2, List.append_nil, List.append_nil]; exact h1, o1, by rw [x2]; exact f1⟩
    · rw [if_neg hw]
      refine itakeData_keep1 h kd nm ak ch ca _ _ rfl _ hD d1 (by simpa using k15) (fun w' => ∃ p' q', IAt Kp w' eb { d with ahead := Ip.ins d.wants (Ip.toFi ⟨kd, nm, ak, ch, ca, data⟩) d.ahead } p' q' S C ∧ IOw { d with ahead := Ip.ins d.wants (Ip.toFi ⟨kd, nm, ak, ch, ca, data⟩) d.ahead } p' q' ∧ Below eb W w') (fun W1 => ∃ p' q', IAt Kp W1 eb { d with ahead := Ip.ins d.wants (Ip.toFi ⟨kd, nm, ak, ch, ca, data⟩) d.ahead, wait := Gp.or1 d.wait } p' q' S C ∧ IOw { d with ahead := Ip.ins d.wants (Ip.toFi ⟨kd, nm, ak, ch, ca, data⟩) d.ahead, wait := Gp.or1 d.wait } p' q' ∧ Below eb W W1) hK (fun W1 hq => ?_) fun W1 hq => ?_
      · obtain ⟨p', q', h1, o1, f1⟩ := hq
        exact (imayRepeat_y h1 hb.wt hw).mono fun e w' ⟨x1, x2, x3⟩ => ⟨x1, p', q', x2, o1, f1.trans x3⟩
      · obtain ⟨p', q', h1, o1, f1⟩ := hq
        exact IPO.go f1 o1 (isayNak_any h1 hb.wn hlen) |>.mono fun e w' ⟨x1, x2⟩ => ⟨x1, by obtain ⟨_, p2, q2, y1, y2, y3⟩ := x2; exact ⟨rfl, p2, q2, by rw [List.append_nil]; exact y1, y2, y3⟩⟩
  · rw [if_neg k15]
    refine itakeData_old h kd nm ak ch ca _ _ rfl _ hD d1 (by simpa using k15) fun W1 h1 f1 => ?_
    exact IPO.go f1 ho (isayAck_any h1 hb.wn hlen) |>.mono fun e w' ⟨x1, x2⟩ => ⟨x1, by obtain ⟨_, p2, q2, y1, y2, y3⟩ := x2; exact ⟨rfl, p2, q2, by rw [List.append_nil]; exact y1, y2, y3⟩⟩
set_option maxHeartbeats 4000000 in
set_option maxRecDepth 100000 in
theorem itakeOther_closing {Kp : Nat → Prop} {W : World} {eb : Nat} {d : Gp.Dr} {p : Pl} {q : Qv} {S : List UInt8} {C : List Gp.Pc} (h : IAt Kp W eb d p q S C) (kd nm ak ch : Int) (ca : Bool) (D : ByteArray) (Post : Ending → World → Prop) (hph : d.phase = 3) (HS : Hid (∀ W1, IAt Kp W1 eb d p q S C → Below eb W W1 → Calls Try.prog 62 #[.pointer (some ⟨eb, 0, none⟩)] W1 fun e w' => e = .returned (.tuple #[]) ∧ Post (.returned (.tuple #[])) w')) :
    Calls Try.prog 43 #[.pointer (some ⟨eb, 0, none⟩), .agg #[.int .i64 kd, .int .i64 nm, .int .i64 ak, .int .i64 ch, .bool ca, .string D]] W Post := by
  have b0 := Rg.hid (Rg.al1 W (.cells #[.int .i64 kd, .int .i64 nm, .int .i64 ak, .int .i64 ch, .bool ca, .string D] 63))
  have kF0 : Hid (Rg.Bk W.heap.size [.int .i64 kd, .int .i64 nm, .int .i64 ak, .int .i64 ch, .bool ca, .string D] 63 (W.alloc (.cells #[.int .i64 kd, .int .i64 nm, .int .i64 ak, .int .i64 ch, .bool ca, .string D] 63))) := Rg.Bk.new rfl
  have hE0 := Rg.hid (h.below b0.out)
  have bE0 : Hid (Below eb W (W.alloc (.cells #[.int .i64 kd, .int .i64 nm, .int .i64 ak, .int .i64 ch, .bool ca, .string D] 63))) := b0.out.mono (Nat.le_of_lt h.bk.lt)
  have c1 : (W.alloc (.cells #[.int .i64 kd, .int .i64 nm, .int .i64 ak, .int .i64 ch, .bool ca, .string D] 63)).cell? ⟨eb, 1, none⟩ = some (.int .i64 3) := by rw [← hph]; exact hE0.out.bk.cell 1
  go_enter Try.func43, Try.ntmps43
  go_upto_region 1 with fail
  generalize World.alloc _ _ = w1 at *
  have hFe : Hid (W.heap.size ≠ eb) := fun e => by have := h.bk.lt; omega
  obtain ⟨F, hF⟩ : ∃ F, F = W.heap.size := ⟨_, rfl⟩
  rw [← hF] at kF0 hFe ⊢
  replace hF := Rg.hid hF
  have f0 : w1.cell? ⟨F, 0, none⟩ = some (.int .i64 kd) := kF0.out.cell 0
  have f1 : w1.cell? ⟨F, 1, none⟩ = some (.int .i64 nm) := kF0.out.cell 1
  have f2 : w1.cell? ⟨F, 2, none⟩ = some (.int .i64 ak) := kF0.out.cell 2
  have f3 : w1.cell? ⟨F, 3, none⟩ = some (.int .i64 ch) := kF0.out.cell 3
  have f4 : w1.cell? ⟨F, 4, none⟩ = some (.bool ca) := kF0.out.cell 4
  have f5 : w1.cell? ⟨F, 5, none⟩ = some (.string D) := kF0.out.cell 5
  have HS1 := Rg.hid (HS.out w1 hE0.out bE0.out)
  clear HS h hE0 bE0 b0 kF0 hph f0 f1 f2 f3 f4 f5
  go_wp2_with (go_at_call 62; refine HS1.out.mono ?_; rintro e w4 ⟨rfl, hp⟩)
  go_end0
  exact hp
set_option maxHeartbeats 4000000 in
set_option maxRecDepth 100000 in
theorem itakeOther_none {Kp : Nat → Prop} {W : World} {eb : Nat} {d : Gp.Dr} {p : Pl} {q : Qv} {S : List UInt8} {C : List Gp.Pc} (h : IAt Kp W eb d p q S C) (kd nm ak ch : Int) (ca : Bool) (D : ByteArray) (Post : Ending → World → Prop) (ph : Int) (hph : d.phase = ph) (p3 : (ph == 3) = false) (p2 : (ph == 2) = false) (HP : ∀ W1, IAt Kp W1 eb d p q S C → Below eb W W1 → Post (.returned (.tuple #[])) W1) :
    Calls Try.prog 43 #[.pointer (some ⟨eb, 0, none⟩), .agg #[.int .i64 kd, .int .i64 nm, .int .i64 ak, .int .i64 ch, .bool ca, .string D]] W Post := by
  have b0 := Rg.hid (Rg.al1 W (.cells #[.int .i64 kd, .int .i64 nm, .int .i64 ak, .int .i64 ch, .bool ca, .string D] 63))
  have kF0 : Hid (Rg.Bk W.heap.size [.int .i64 kd, .int .i64 nm, .int .i64 ak, .int .i64 ch, .bool ca, .string D] 63 (W.alloc (.cells #[.int .i64 kd, .int .i64 nm, .int .i64 ak, .int .i64 ch, .bool ca, .string D] 63))) := Rg.Bk.new rfl
  have hE0 := Rg.hid (h.below b0.out)
  have bE0 : Hid (Below eb W (W.alloc (.cells #[.int .i64 kd, .int .i64 nm, .int .i64 ak, .int .i64 ch, .bool ca, .string D] 63))) := b0.out.mono (Nat.le_of_lt h.bk.lt)
  have c1 : (W.alloc (.cells #[.int .i64 kd, .int .i64 nm, .int .i64 ak, .int .i64 ch, .bool ca, .string D] 63)).cell? ⟨eb, 1, none⟩ = some (.int .i64 ph) := by rw [← hph]; exact hE0.out.bk.cell 1
  go_enter Try.func43, Try.ntmps43
  go_upto_region 1 with fail
  generalize World.alloc _ _ = w1 at *
  have hFe : Hid (W.heap.size ≠ eb) := fun e => by have := h.bk.lt; omega
  obtain ⟨F, hF⟩ : ∃ F, F = W.heap.size := ⟨_, rfl⟩
  rw [← hF] at kF0 hFe ⊢
  replace hF := Rg.hid hF
  have f0 : w1.cell? ⟨F, 0, none⟩ = some (.int .i64 kd) := kF0.out.cell 0
  have f1 : w1.cell? ⟨F, 1, none⟩ = some (.int .i64 nm) := kF0.out.cell 1
  have f2 : w1.cell? ⟨F, 2, none⟩ = some (.int .i64 ak) := kF0.out.cell 2
  have f3 : w1.cell? ⟨F, 3, none⟩ = some (.int .i64 ch) := kF0.out.cell 3
  have f4 : w1.cell? ⟨F, 4, none⟩ = some (.bool ca) := kF0.out.cell 4
  have f5 : w1.cell? ⟨F, 5, none⟩ = some (.string D) := kF0.out.cell 5
  have hp := HP w1 hE0.out bE0.out
  clear HP h hE0 bE0 b0 kF0 hph f0 f1 f2 f3 f4 f5
  go_wp2
  go_end0
  exact hp
set_option maxHeartbeats 4000000 in
set_option maxRecDepth 100000 in
theorem itakeOther_nak {Kp : Nat → Prop} {W : World} {eb : Nat} {d : Gp.Dr} {p : Pl} {q : Qv} {S : List UInt8} {C : List Gp.Pc} (h : IAt Kp W eb d p q S C) (kd nm ak ch : Int) (ca : Bool) (D : ByteArray) (Post : Ending → World → Prop) (hph : d.phase = 2) (hk : kd = 3) (HN : Hid (∀ W1 a c, IAt Kp W1 eb (Gp.acked d ak) { p with w := a, wc := c } q S C → Below eb W W1 → Calls Try.prog 64 #[.pointer (some ⟨eb, 0, none⟩), .int .i64 nm] W1 fun e w' => e = .returned (.tuple #[]) ∧ Post (.returned (.tuple #[])) w')) :
    Calls Try.prog 43 #[.pointer (some ⟨eb, 0, none⟩), .agg #[.int .i64 kd, .int .i64 nm, .int .i64 ak, .int .i64 ch, .bool ca, .string D]] W Post := by
  subst hk
  have b0 := Rg.hid (Rg.al1 W (.cells #[.int .i64 3, .int .i64 nm, .int .i64 ak, .int .i64 ch, .bool ca, .string D] 63))
  have kF0 : Hid (Rg.Bk W.heap.size [.int .i64 3, .int .i64 nm, .int .i64 ak, .int .i64 ch, .bool ca, .string D] 63 (W.alloc (.cells #[.int .i64 3, .int .i64 nm, .int .i64 ak, .int .i64 ch, .bool ca, .string D] 63))) := Rg.Bk.new rfl
  have hE0 := Rg.hid (h.below b0.out)
  have bE0 : Hid (Below eb W (W.alloc (.cells #[.int .i64 3, .int .i64 nm, .int .i64 ak, .int .i64 ch, .bool ca, .string D] 63))) := b0.out.mono (Nat.le_of_lt h.bk.lt)
  have c1 : (W.alloc (.cells #[.int .i64 3, .int .i64 nm, .int .i64 ak, .int .i64 ch, .bool ca, .string D] 63)).cell? ⟨eb, 1, none⟩ = some (.int .i64 2) := by rw [← hph]; exact hE0.out.bk.cell 1
  go_enter Try.func43, Try.ntmps43
  go_upto_region 1 with fail
  generalize World.alloc _ _ = w1 at *
  have hFe : Hid (W.heap.size ≠ eb) := fun e => by have := h.bk.lt; omega
  obtain ⟨F, hF⟩ : ∃ F, F = W.heap.size := ⟨_, rfl⟩
  rw [← hF] at kF0 hFe ⊢
  replace hF := Rg.hid hF
  have f0 : w1.cell? ⟨F, 0, none⟩ = some (.int .i64 3) := kF0.out.cell 0
  have f1 : w1.cell? ⟨F, 1, none⟩ = some (.int .i64 nm) := kF0.out.cell 1
  have f2 : w1.cell? ⟨F, 2, none⟩ = some (.int .i64 ak) := kF0.out.cell 2
  have f3 : w1.cell? ⟨F, 3, none⟩ = some (.int .i64 ch) := kF0.out.cell 3
  have f4 : w1.cell? ⟨F, 4, none⟩ = some (.bool ca) := kF0.out.cell 4
  have f5 : w1.cell? ⟨F, 5, none⟩ = some (.string D) := kF0.out.cell 5
  have HA1 := Rg.hid (iacknowledge_f hE0.out ak)
  go_upto_region 6 with (go_at_call 63; refine HA1.out.mono ?_; rintro e w4 ⟨rfl, a4, c4, h4, f4x⟩)
  have kF4 := Rg.hid (f4x.bk kF0.out hFe.out (by decide))
  have b4 := Rg.hid (bE0.out.trans f4x.bel)
  replace h4 := Rg.hid h4
  clear f4x HA1 h hE0 bE0 b0 kF0 hph c1 f0 f1 f2 f3 f4 f5 hF hFe
  have g0 : w4.cell? ⟨F, 0, none⟩ = some (.int .i64 3) := kF4.out.cell 0
  have g1 : w4.cell? ⟨F, 1, none⟩ = some (.int .i64 nm) := kF4.out.cell 1
  have g2 : w4.cell? ⟨F, 2, none⟩ = some (.int .i64 ak) := kF4.out.cell 2
  have g3 : w4.cell? ⟨F, 3, none⟩ = some (.int .i64 ch) := kF4.out.cell 3
  have g4 : w4.cell? ⟨F, 4, none⟩ = some (.bool ca) := kF4.out.cell 4
  have g5 : w4.cell? ⟨F, 5, none⟩ = some (.string D) := kF4.out.cell 5
  clear kF4
  have HN1 := Rg.hid (HN.out w4 a4 c4 h4.out b4.out)
  clear HN h4 b4
  go_wp2_with (go_at_call 64; refine HN1.out.mono ?_; rintro e w5 ⟨rfl, hp⟩)
  go_end0
  exact hp
set_option maxHeartbeats 4000000 in
set_option maxRecDepth 100000 in
theorem itakeOther_data {Kp : Nat → Prop} {W : World} {eb : Nat} {d : Gp.Dr} {p : Pl} {q : Qv} {S : List UInt8} {C : List Gp.Pc} (h : IAt Kp W eb d p q S C) (kd nm ak ch : Int) (ca : Bool) (D : ByteArray) (Post : Ending → World → Prop) (hph : d.phase = 2) (hk : kd = 0) (HN : Hid (∀ W1 a c, IAt Kp W1 eb (Gp.acked d ak) { p with w := a, wc := c } q S C → Below eb W W1 → Calls Try.prog 65 #[.pointer (some ⟨eb, 0, none⟩), .agg #[.int .i64 kd, .int .i64 nm, .int .i64 ak, .int .i64 ch, .bool ca, .string D]] W1 fun e w' => e = .returned (.tuple #[]) ∧ Post (.returned (.tuple #[])) w')) :
    Calls Try.prog 43 #[.pointer (some ⟨eb, 0, none⟩), .agg #[.int .i64 kd, .int .i64 nm, .int .i64 ak, .int .i64 ch, .bool ca, .string D]] W Post := by
  subst hk
  have b0 := Rg.hid (Rg.al1 W (.cells #[.int .i64 0, .int .i64 nm, .int .i64 ak, .int .i64 ch, .bool ca, .string D] 63))
  have kF0 : Hid (Rg.Bk W.heap.size [.int .i64 0, .int .i64 nm, .int .i64 ak, .int .i64 ch, .bool ca, .string D] 63 (W.alloc (.cells #[.int .i64 0, .int .i64 nm, .int .i64 ak, .int .i64 ch, .bool ca, .string D] 63))) := Rg.Bk.new rfl
  have hE0 := Rg.hid (h.below b0.out)
  have bE0 : Hid (Below eb W (W.alloc (.cells #[.int .i64 0, .int .i64 nm, .int .i64 ak, .int .i64 ch, .bool ca, .string D] 63))) := b0.out.mono (Nat.le_of_lt h.bk.lt)
  have c1 : (W.alloc (.cells #[.int .i64 0, .int .i64 nm, .int .i64 ak, .int .i64 ch, .bool ca, .string D] 63)).cell? ⟨eb, 1, none⟩ = some (.int .i64 2) := by rw [← hph]; exact hE0.out.bk.cell 1
  go_enter Try.func43, Try.ntmps43
  go_upto_region 1 with fail
  generalize World.alloc _ _ = w1 at *
  have hFe : Hid (W.heap.size ≠ eb) := fun e => by have := h.bk.lt; omega
  obtain ⟨F, hF⟩ : ∃ F, F = W.heap.size := ⟨_, rfl⟩
  rw [← hF] at kF0 hFe ⊢
  replace hF := Rg.hid hF
  have f0 : w1.cell? ⟨F, 0, none⟩ = some (.int .i64 0) := kF0.out.cell 0
  have f1 : w1.cell? ⟨F, 1, none⟩ = some (.int .i64 nm) := kF0.out.cell 1
  have f2 : w1.cell? ⟨F, 2, none⟩ = some (.int .i64 ak) := kF0.out.cell 2
  have f3 : w1.cell? ⟨F, 3, none⟩ = some (.int .i64 ch) := kF0.out.cell 3
  have f4 : w1.cell? ⟨F, 4, none⟩ = some (.bool ca) := kF0.out.cell 4
  have f5 : w1.cell? ⟨F, 5, none⟩ = some (.string D) := kF0.out.cell 5
  have HA1 := Rg.hid (iacknowledge_f hE0.out ak)
  go_upto_region 6 with (go_at_call 63; refine HA1.out.mono ?_; rintro e w4 ⟨rfl, a4, c4, h4, f4x⟩)
  have kF4 := Rg.hid (f4x.bk kF0.out hFe.out (by decide))
  have b4 := Rg.hid (bE0.out.trans f4x.bel)
  replace h4 := Rg.hid h4
  clear f4x HA1 h hE0 bE0 b0 kF0 hph c1 f0 f1 f2 f3 f4 f5 hF hFe
  have g0 : w4.cell? ⟨F, 0, none⟩ = some (.int .i64 0) := kF4.out.cell 0
  have g1 : w4.cell? ⟨F, 1, none⟩ = some (.int .i64 nm) := kF4.out.cell 1
  have g2 : w4.cell? ⟨F, 2, none⟩ = some (.int .i64 ak) := kF4.out.cell 2
  have g3 : w4.cell? ⟨F, 3, none⟩ = some (.int .i64 ch) := kF4.out.cell 3
  have g4 : w4.cell? ⟨F, 4, none⟩ = some (.bool ca) := kF4.out.cell 4
  have g5 : w4.cell? ⟨F, 5, none⟩ = some (.string D) := kF4.out.cell 5
  clear kF4
  have HN1 := Rg.hid (HN.out w4 a4 c4 h4.out b4.out)
  clear HN h4 b4
  go_wp2_with (go_at_call 65; refine HN1.out.mono ?_; rintro e w5 ⟨rfl, hp⟩)
  go_end0
  exact hp
set_option maxHeartbeats 4000000 in
set_option maxRecDepth 100000 in
theorem itakeOther_ack {Kp : Nat → Prop} {W : World} {eb : Nat} {d : Gp.Dr} {p : Pl} {q : Qv} {S : List UInt8} {C : List Gp.Pc} (h : IAt Kp W eb d p q S C) (kd nm ak ch : Int) (ca : Bool) (D : ByteArray) (Post : Ending → World → Prop) (hph : d.phase = 2) (k3 : (kd == 3) = false) (k0 : (kd == 0) = false) (HP : ∀ W1 a c, IAt Kp W1 eb (Gp.acked d ak) { p with w := a, wc := c } q S C → Below eb W W1 → Post (.returned (.tuple #[])) W1) :
    Calls Try.prog 43 #[.pointer (some ⟨eb, 0, none⟩), .agg #[.int .i64 kd, .int .i64 nm, .int .i64 ak, .int .i64 ch, .bool ca, .string D]] W Post := by
  have b0 := Rg.hid (Rg.al1 W (.cells #[.int .i64 kd, .int .i64 nm, .int .i64 ak, .int .i64 ch, .bool ca, .string D] 63))
  have kF0 : Hid (Rg.Bk W.heap.size [.int .i64 kd, .int .i64 nm, .int .i64 ak, .int .i64 ch, .bool ca, .string D] 63 (W.alloc (.cells #[.int .i64 kd, .int .i64 nm, .int .i64 ak, .int .i64 ch, .bool ca, .string D] 63))) := Rg.Bk.new rfl
  have hE0 := Rg.hid (h.below b0.out)
  have bE0 : Hid (Below eb W (W.alloc (.cells #[.int .i64 kd, .int .i64 nm, .int .i64 ak, .int .i64 ch, .bool ca, .string D] 63))) := b0.out.mono (Nat.le_of_lt h.bk.lt)
  have c1 : (W.alloc (.cells #[.int .i64 kd, .int .i64 nm, .int .i64 ak, .int .i64 ch, .bool ca, .string D] 63)).cell? ⟨eb, 1, none⟩ = some (.int .i64 2) := by rw [← hph]; exact hE0.out.bk.cell 1
  go_enter Try.func43, Try.ntmps43
  go_upto_region 1 with fail
  generalize World.alloc _ _ = w1 at *
  have hFe : Hid (W.heap.size ≠ eb) := fun e => by have := h.bk.lt; omega
  obtain ⟨F, hF⟩ : ∃ F, F = W.heap.size := ⟨_, rfl⟩
  rw [← hF] at kF0 hFe ⊢
  replace hF := Rg.hid hF
  have f0 : w1.cell? ⟨F, 0, none⟩ = some (.int .i64 kd) := kF0.out.cell 0
  have f1 : w1.cell? ⟨F, 1, none⟩ = some (.int .i64 nm) := kF0.out.cell 1
  have f2 : w1.cell? ⟨F, 2, none⟩ = some (.int .i64 ak) := kF0.out.cell 2
  have f3 : w1.cell? ⟨F, 3, none⟩ = some (.int .i64 ch) := kF0.out.cell 3
  have f4 : w1.cell? ⟨F, 4, none⟩ = some (.bool ca) := kF0.out.cell 4
  have f5 : w1.cell? ⟨F, 5, none⟩ = some (.string D) := kF0.out.cell 5
  have HA1 := Rg.hid (iacknowledge_f hE0.out ak)
  go_upto_region 6 with (go_at_call 63; refine HA1.out.mono ?_; rintro e w4 ⟨rfl, a4, c4, h4, f4x⟩)
  have kF4 := Rg.hid (f4x.bk kF0.out hFe.out (by decide))
  have b4 := Rg.hid (bE0.out.trans f4x.bel)
  replace h4 := Rg.hid h4
  clear f4x HA1 h hE0 bE0 b0 kF0 hph c1 f0 f1 f2 f3 f4 f5 hF hFe
  have g0 : w4.cell? ⟨F, 0, none⟩ = some (.int .i64 kd) := kF4.out.cell 0
  have g1 : w4.cell? ⟨F, 1, none⟩ = some (.int .i64 nm) := kF4.out.cell 1
  have g2 : w4.cell? ⟨F, 2, none⟩ = some (.int .i64 ak) := kF4.out.cell 2
  have g3 : w4.cell? ⟨F, 3, none⟩ = some (.int .i64 ch) := kF4.out.cell 3
  have g4 : w4.cell? ⟨F, 4, none⟩ = some (.bool ca) := kF4.out.cell 4
  have g5 : w4.cell? ⟨F, 5, none⟩ = some (.string D) := kF4.out.cell 5
  clear kF4
  have hp := HP w4 a4 c4 h4.out b4.out
  clear HP h4 b4
  go_wp2
  go_end0
  exact hp
end Go.Proofs.Ytlclfkogbfigbaa
