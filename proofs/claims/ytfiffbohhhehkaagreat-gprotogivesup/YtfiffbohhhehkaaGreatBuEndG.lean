/-
  Walks of layer 15: takePackets, tick. Walks of layer 15: tick. Walks of layer 15: Right says so of a drive that is right. Walks of layer 15: Right.
-/
import Derived.Test.YtfiffbohhhehkaaGreatBuEndF
namespace Go.Proofs.YtfiffbohhhehkaaGreat
open Go.RowKit
/-- what takePackets leaves -/
def KPost (Kp : Nat → Prop) (base eb : Nat) (W : World) (r : Gp.Dr × List UInt8 × List UInt8) (S C : List UInt8) (e : Ending) (w' : World) : Prop := e = .returned (.tuple #[]) ∧ ES Kp base w' eb r.1 (S ++ r.2.1) (C ++ r.2.2) ∧ Below base W w' ∧ (∀ k C, Rg.Bk k C 29 W → Rg.Bk k C 29 w') ∧ r.2.1.length ≤ 1600000000 ∧ r.2.2.length ≤ 1600000000
theorem drive_ne {Kp : Nat → Prop} {base eb k : Nat} {W : World} {d : Gp.Dr} {p : Pl} {q : Bu} {S C : List UInt8} {CD : List Value} (h : EAt Kp base W eb d p q S C) (hk : Rg.Bk k CD 29 W) : k ≠ eb := fun e => by
  have h2 := h.bk
  unfold Rg.Bk at h2 hk
  rw [← e, hk] at h2
  cases h2
theorem takePackets_any {Kp : Nat → Prop} {base eb : Nat} {W : World} {d : Gp.Dr} {p : Pl} {q : Bu} {S C : List UInt8} (h : EAt Kp base W eb d p q S C) (hr : Gp.right d) (ht : d.took = []) (hL : d.buf.length ≤ 40000) (hm : d.at_ + d.buf.length ≤ 1099511627776) (hls : S.length ≤ 1000000) (hlc : C.length ≤ 1000000) :
    Calls Tryz.prog 32 #[.pointer (some ⟨eb, 0, none⟩)] W fun e w' => KPost Kp base eb W (Gp.feedN (d.buf.length + 1) d [] []) S C e w' := by
  refine takePackets_go (d := d) (L0 := d.buf.length) (S := S) (C := C) ⟨d, p, q, S, C, d.buf.length + 1, h, Below.refl _ _, fun _ _ h => h, ⟨[], [], by simp, by simp, rfl⟩, hr, by omega, hm, Nat.le_refl _, by omega, by omega, by rw [ht]; exact Nat.zero_le _⟩ _ hL ?_ ?_ ?_ ?_
  · intro W1 dm p q Si Ci f hti
    have hb := hti.bl
    have := gscan_any ⟨dm.buf.toArray⟩ (by rw [size_bytes]; omega) W1
    exact this
  · intro W1 dm p q Si Ci f hti hs W2 b2
    obtain ⟨e1, e2, e3⟩ := hti.stop hs
    obtain ⟨i, a1, a2, _⟩ := Gp.scan_no dm.buf 0 hs
    have hmx := hti.mx
    have ha0 := hti.rt.1.2.2.2.2.2.2.2.1
    refine (cut_any (hti.at_.below b2) (Gf.scan 0 dm.buf).a (by omega) ha0 (by omega)).mono fun e w' hp => ⟨hp.1, rfl, ?_, (hti.bel.trans (b2.mono hti.at_.lt)).trans hp.2.2.bel, fun k C h => ?_, ?_, ?_⟩
    rotate_left
    · have h1 := hti.kp k C h
      exact hp.2.2.bk (h1.below b2 h1.lt) (drive_ne (hti.at_.below b2) (h1.below b2 h1.lt)) (by decide)
    · have h1 := hti.ls
      rw [e2, List.length_append] at h1
      omega
    · have h1 := hti.lc
      rw [e3, List.length_append] at h1
      omega
    rw [e1, ← e2, ← e3]
    exact hp.2.1
  · intro W1 dm p q Si Ci f hti hs W2 p2 q2 h2
    obtain ⟨_, _, hle, _, _⟩ := right_noted hti.rt hti.mx hs
    have hmx := hti.mx
    have ha0 := hti.rt.1.2.2.2.2.2.2.2.1
    exact (cut_any h2 (Gf.scan 0 dm.buf).b hle ha0 (by show dm.at_ + _ ≤ _; omega)).mono fun e w' hp => ⟨hp.1, hp.2.1, hp.2.2⟩
  · intro W1 dm p q Si Ci f hti hs W2 p2 q2 h2 hb2 hkp2
    obtain ⟨hr1, hok, hle, _, _⟩ := right_noted hti.rt hti.mx hs
    have hw := Gp.wait2 hr1.1.2.2.2.2.2.2.2.2.2.1 hr1.1.2.2.2.2.2.2.2.2.2.2.1
    have hr2 := Gp.right_wait hr1 hw.1 hw.2
    have hls1 := hti.ls
    have hlc1 := hti.lc
    have hbl := hti.bl
    have hd := Gp.data_len hok
    have hsz : (⟨(Gf.scan 0 dm.buf).f.data.toArray⟩ : ByteArray).size = (Gf.scan 0 dm.buf).f.data.length := size_bytes _
    refine (take_any h2 hr2 _ _ _ _ ⟨(Gf.scan 0 dm.buf).f.data.toArray⟩ hok (by omega) (by rw [hsz]; omega)).mono fun e w' hp => ?_
    obtain ⟨⟨p', q', f', hn⟩, hlt⟩ := hti.next hs (w2 := w') (hb2.trans hp.2.2.bel) (fun k C h => hp.2.2.bk (hkp2 k C h) (drive_ne h2 (hkp2 k C h)) (by decide)) hp.2.1
    refine ⟨hp.1, ⟨_, _, _, _, _, _, hn⟩, ?_⟩
    show bufLen eb w' < dm.buf.length
    rw [hn.at_.bufLen]
    exact hlt
set_option maxHeartbeats 1000000 in
set_option maxRecDepth 100000 in
theorem tickRunning_empty (eb : Nat) (a : Option Addr) (c : Nat) (st : Int) (W : World) (c9 : W.cell? ⟨eb, 9, none⟩ = some (.slice a 0 c)) (c3 : W.cell? ⟨eb, 3, none⟩ = some (.int .i64 st)) (fz : ∀ i, W.frozen? ⟨eb, i, none⟩ = false) :
    Calls Tryz.prog 71 #[.pointer (some ⟨eb, 0, none⟩)] W fun e w' => e = .returned (.tuple #[]) ∧ w' = W.setCell ⟨eb, 3, none⟩ (.int .i64 (-1)) := by
  go_enter Tryz.func71, Tryz.ntmps71
  go_wp2
  go_end0
  exact ⟨rfl, rfl⟩
set_option maxHeartbeats 1000000 in
set_option maxRecDepth 100000 in
theorem tickRunning_first {Kp : Nat → Prop} {base eb : Nat} {W : World} {d : Gp.Dr} {p : Pl} {q : Bu} {S C : List UInt8} (h : EAt Kp base W eb d p q S C) (n : Nat) (hn : d.win.l.length = n) (h0 : (n == 0) = false) (h1 : (d.step != d.win.bs) = true) :
    Calls Tryz.prog 71 #[.pointer (some ⟨eb, 0, none⟩)] W fun e w' => EPost Kp base eb W { d with step := d.win.bs } S C e w' := by
  have c9 : W.cell? ⟨eb, 9, none⟩ = some (.slice p.w n p.wc) := by rw [← hn]; exact h.bk.cell 9
  have c3 : W.cell? ⟨eb, 3, none⟩ = some (.int .i64 d.step) := h.bk.cell 3
  have c8 : W.cell? ⟨eb, 8, none⟩ = some (.int .i64 d.win.bs) := h.bk.cell 8
  have h0' : ((n : Int) == 0) = false := by
    have : ¬ n = 0 := by simpa using h0
    simp; omega
  go_enter Tryz.func71, Tryz.ntmps71
  go_wp2
  go_quiet (fail)
  have h2 := Rg.hid (h.drewN nq)
  have f2 : Hid (Fr base eb W (W.drewN nq)) := Fr.of (Rg.drewN (Below.refl _ _) nq) h.lt
  clear c9 c3 c8 h h0 h0'
  generalize World.drewN _ _ = w2 at *
  have c3 : w2.cell? ⟨eb, 3, none⟩ = some (.int .i64 d.step) := h2.out.bk.cell 3
  have c8 : w2.cell? ⟨eb, 8, none⟩ = some (.int .i64 d.win.bs) := h2.out.bk.cell 8
  have fz := h2.out.bk.thaw
  go_wp2
  go_end0
  exact ⟨rfl, ⟨p, q, h2.out.upd 3 (.int .i64 d.win.bs) { d with step := d.win.bs } rfl rfl rfl rfl rfl⟩, f2.out.trans (Fr.set h2.out.new _ _)⟩
set_option maxHeartbeats 1000000 in
set_option maxRecDepth 100000 in
theorem tickRunning_again {Kp : Nat → Prop} {base eb : Nat} {W : World} {d : Gp.Dr} {p : Pl} {q : Bu} {S C : List UInt8} (h : EAt Kp base W eb d p q S C) (n : Nat) (hn : d.win.l.length = n) (h0 : (n == 0) = false) (h1 : d.step = d.win.bs) (d2 : Gp.Dr) (bT : Bool) (Post : Ending → World → Prop)
    (HM : Hid (∀ W1, EAt Kp base W1 eb d p q S C → Calls Tryz.prog 70 #[.pointer (some ⟨eb, 0, none⟩)] W1 fun e w' => e = .returned (.bool bT) ∧ Hid (ES Kp base w' eb d2 S C) ∧ Hid (Fr base eb W1 w')))
    (HS : Hid (bT = true → ∀ W1 p1 q1, EAt Kp base W1 eb d2 p1 q1 S C → Fr base eb W W1 → Calls Tryz.prog 92 #[.pointer (some ⟨eb, 0, none⟩)] W1 fun e w' => e = .returned (.tuple #[]) ∧ Post (.returned (.tuple #[])) w'))
    (HP : Hid (bT = false → ∀ W1, ES Kp base W1 eb d2 S C → Fr base eb W W1 → Post (.returned (.tuple #[])) W1)) :
    Calls Tryz.prog 71 #[.pointer (some ⟨eb, 0, none⟩)] W Post := by
  have c9 : W.cell? ⟨eb, 9, none⟩ = some (.slice p.w n p.wc) := by rw [← hn]; exact h.bk.cell 9
  have c3 : W.cell? ⟨eb, 3, none⟩ = some (.int .i64 d.win.bs) := by rw [← h1]; exact h.bk.cell 3
  have c8 : W.cell? ⟨eb, 8, none⟩ = some (.int .i64 d.win.bs) := h.bk.cell 8
  have h0' : ((n : Int) == 0) = false := by
    have : ¬ n = 0 := by simpa using h0
    simp; omega
  have hne : (d.win.bs != d.win.bs) = false := by simp
  go_enter Tryz.func71, Tryz.ntmps71
  go_wp2
  go_quiet (fail)
  have h2 := Rg.hid (h.drewN nq)
  have f2 : Hid (Fr base eb W (W.drewN nq)) := Fr.of (Rg.drewN (Below.refl _ _) nq) h.lt
  clear c9 c3 c8 h h0 h0' hn
  generalize World.drewN _ _ = w2 at *
  have HM1 := Rg.hid (HM.out _ h2.out)
  clear HM h2
  cases bT with
  | true =>
    go_upto_region 5 with (go_at_call 70; refine HM1.out.mono ?_; rintro e w3 ⟨rfl, hs3, fr3⟩)
    obtain ⟨p3, q3, h3⟩ := hs3.out
    have HS1 := Rg.hid (HS.out (by trivial) w3 p3 q3 h3 (f2.out.trans fr3.out))
    clear HS HP HM1 hs3 fr3 h3
    go_wp2_with (go_at_call 92; refine HS1.out.mono ?_; rintro e w4 ⟨rfl, hp⟩)
    go_end0
    exact hp
  | false =>
    go_wp2_with (go_at_call 70; refine HM1.out.mono ?_; rintro e w3 ⟨rfl, hs3, fr3⟩)
    go_end0
    exact HP.out (by trivial) w3 hs3.out (f2.out.trans fr3.out)
end Go.Proofs.YtfiffbohhhehkaaGreat

namespace Go.Proofs.YtfiffbohhhehkaaGreat
open Go.RowKit
/-- what tickRunning comes to -/
def Gp.ticked (d : Gp.Dr) : Gp.Dr × List UInt8 :=
  if d.win.l = [] then ({ d with step := -1 }, [])
  else if d.step ≠ d.win.bs then ({ d with step := d.win.bs }, [])
  else if 12 < d.tries + 1 then ({ d with tries := d.tries + 1, phase := 5 }, []) else ({ d with tries := d.tries + 1 }, Gp.all { d with tries := d.tries + 1 })
theorem tickRunning_any {Kp : Nat → Prop} {base eb : Nat} {W : World} {d : Gp.Dr} {p : Pl} {q : Bu} {S C : List UInt8} (h : EAt Kp base W eb d p q S C) (hb : Gp.base d) (hr : Gp.runs d) (hlen : S.length + 40000 ≤ 140737488355328) :
    Calls Tryz.prog 71 #[.pointer (some ⟨eb, 0, none⟩)] W fun e w' => EPost Kp base eb W (Gp.ticked d).1 (S ++ (Gp.ticked d).2) C e w' := by
  have ⟨b1, b2, b3, b4, b5, b6, b7, b8, b9, b10, b11, b12, b13, b14, b15⟩ := hb
  unfold Gp.ticked
  by_cases hw : d.win.l = []
  · rw [if_pos hw]
    have c9 : W.cell? ⟨eb, 9, none⟩ = some (.slice p.w 0 p.wc) := by
      have := h.bk.cell 9
      have e : (EC d p q)[9]? = some (.slice p.w d.win.l.length p.wc) := rfl
      rw [e, hw] at this
      exact this
    refine (tickRunning_empty eb p.w p.wc d.step W c9 (h.bk.cell 3) h.bk.thaw).mono ?_
    rintro e w' ⟨rfl, rfl⟩
    dsimp only
    rw [List.append_nil]
    exact ⟨rfl, ⟨p, q, h.upd 3 (.int .i64 (-1)) { d with step := -1 } rfl rfl rfl rfl rfl⟩, Fr.set h.new _ _⟩
  rw [if_neg hw]
  have h0 : (d.win.l.length == 0) = false := by simp [hw]
  by_cases hs : d.step ≠ d.win.bs
  · rw [if_pos hs]
    dsimp only
    rw [List.append_nil]
    exact tickRunning_first h _ rfl h0 (by simp [hs])
  rw [if_neg hs]
  have hs2 : d.step = d.win.bs := Classical.byContradiction hs
  by_cases ht : 12 < d.tries + 1
  · rw [if_pos ht]
    dsimp only
    rw [List.append_nil]
    exact tickRunning_again h _ rfl h0 hs2 { d with tries := d.tries + 1, phase := 5 } false _ (fun W1 h1 => mayTry_n h1 b12 b13 ht) (fun hx => by cases hx) (fun _ W1 h1 f1 => ⟨rfl, h1, f1⟩)
  · rw [if_neg ht]
    exact tickRunning_again h _ rfl h0 hs2 { d with tries := d.tries + 1 } true _ (fun W1 h1 => mayTry_y h1 b12 b13 ht) (fun _ W1 p1 q1 h1 f1 => EPost.go f1 (sayWindow_any h1 ⟨b1, b2, b3, b4, b5, b6, b7, b8, b9, b10, b11, by show 0 ≤ d.tries + 1; omega, by show d.tries + 1 ≤ 13; omega, b14, b15⟩ hr hlen)) (fun hx => by cases hx)
set_option maxHeartbeats 2000000 in
set_option maxRecDepth 100000 in
theorem tick_kept {Kp : Nat → Prop} {base eb : Nat} {W : World} {d : Gp.Dr} {p : Pl} {q : Bu} {S C : List UInt8} (h : EAt Kp base W eb d p q S C) (d1 d2 : Gp.Dr) (bT : Bool) (hp1 : d1.phase = d.phase) (Post : Ending → World → Prop)
    (HM : Hid (d.phase = 1 ∨ d.phase = 3 → ∀ W1 p1 q1, EAt Kp base W1 eb d1 p1 q1 S C → Calls Tryz.prog 70 #[.pointer (some ⟨eb, 0, none⟩)] W1 fun e w' => e = .returned (.bool bT) ∧ Hid (ES Kp base w' eb d2 S C) ∧ Hid (Fr base eb W1 w')))
    (HO : Hid (d.phase = 1 → bT = true → ∀ W1 p1 q1, EAt Kp base W1 eb d2 p1 q1 S C → Fr base eb W W1 → Calls Tryz.prog 26 #[.pointer (some ⟨eb, 0, none⟩), .int .i64 d2.step] W1 fun e w' => e = .returned (.tuple #[]) ∧ Post (.returned (.tuple #[])) w'))
    (HF : Hid (d.phase = 1 → bT = false → ∀ W1, ES Kp base W1 eb d2 S C → Fr base eb W W1 → Post (.returned (.tuple #[])) W1))
    (HC : Hid (d.phase = 3 → bT = true → ∀ W1 p1 q1, EAt Kp base W1 eb d2 p1 q1 S C → Fr base eb W W1 → Calls Tryz.prog 46 #[.pointer (some ⟨eb, 0, none⟩)] W1 fun e w' => e = .returned (.tuple #[]) ∧ Post (.returned (.tuple #[])) w'))
    (HX : Hid (d.phase = 3 → bT = false → ∀ W1, ES Kp base W1 eb { d2 with phase := 4, step := 0 } S C → Fr base eb W W1 → Post (.returned (.tuple #[])) W1))
    (HR : Hid (d.phase = 2 → ∀ W1 p1 q1, EAt Kp base W1 eb d1 p1 q1 S C → Fr base eb W W1 → Calls Tryz.prog 71 #[.pointer (some ⟨eb, 0, none⟩)] W1 fun e w' => e = .returned (.tuple #[]) ∧ Post (.returned (.tuple #[])) w'))
    (HN : Hid (d.phase = 4 ∨ d.phase = 5 → ∀ W1, ES Kp base W1 eb d1 S C → Fr base eb W W1 → Post (.returned (.tuple #[])) W1)) (h15 : 1 ≤ d.phase ∧ d.phase ≤ 5) (A : Int) (ha : bits .and .i64 d.wait 2 = A) (ha0 : (A == 0) = false) (hd1 : d1 = { d with wait := 0 }) :
    Calls Tryz.prog 39 #[.pointer (some ⟨eb, 0, none⟩)] W Post := by
  have c15 : W.cell? ⟨eb, 15, none⟩ = some (.int .i64 d.wait) := h.bk.cell 15
  have fz := h.bk.thaw
  have h3 : Hid (EAt Kp base (W.setCell ⟨eb, 15, none⟩ (.int .i64 0)) eb d1 p q S C) := by rw [hd1]; exact h.upd 15 (.int .i64 0) { d with wait := 0 } rfl rfl rfl rfl rfl
  have f3 : Hid (Fr base eb W (W.setCell ⟨eb, 15, none⟩ (.int .i64 0))) := Fr.set h.new _ _
  obtain ⟨p3, hp3⟩ : ∃ p3, p3 = p := ⟨_, rfl⟩
  obtain ⟨q3, hq3⟩ : ∃ q3, q3 = q := ⟨_, rfl⟩
  rw [← hp3, ← hq3] at h3
  clear h hd1 hp3 hq3
  go_enter Tryz.func39, Tryz.ntmps39
  go_upto_region 3 with fail
  generalize World.setCell _ _ _ = w3 at *
  clear c15 fz ha ha0
  have c1 : w3.cell? ⟨eb, 1, none⟩ = some (.int .i64 d.phase) := by rw [← hp1]; exact h3.out.bk.cell 1
  obtain ⟨ph, hph⟩ : ∃ ph, d.phase = ph := ⟨_, rfl⟩
  rw [hph] at c1 HM HO HF HC HX HR HN h15
  clear hp1 hph
  obtain rfl | rfl | rfl | rfl | rfl : ph = 1 ∨ ph = 2 ∨ ph = 3 ∨ ph = 4 ∨ ph = 5 := by omega
  · have HM1 := Rg.hid (HM.out (.inl rfl) w3 p3 q3 h3.out)
    clear HM HC HX HR HN h3
    cases bT with
    | true =>
      go_upto_region 6 with (go_at_call 70; refine HM1.out.mono ?_; rintro e w4 ⟨rfl, hs4, fr4⟩)
      obtain ⟨p4, q4, h4⟩ := hs4.out
      have HO1 := Rg.hid (HO.out (by trivial) (by trivial) w4 p4 q4 h4 (f3.out.trans fr4.out))
      have c3 : w4.cell? ⟨eb, 3, none⟩ = some (.int .i64 d2.step) := h4.bk.cell 3
      clear HM1 HO HF hs4 fr4 h4 c1
      go_wp2_with (go_at_call 26; refine HO1.out.mono ?_; rintro e w5 ⟨rfl, hp⟩)
      go_end0
      exact hp
    | false =>
      go_wp2_with (go_at_call 70; refine HM1.out.mono ?_; rintro e w4 ⟨rfl, hs4, fr4⟩)
      go_end0
      exact HF.out (by trivial) (by trivial) w4 hs4.out (f3.out.trans fr4.out)
  · have HR1 := Rg.hid (HR.out rfl w3 p3 q3 h3.out f3.out)
    clear HM HO HF HC HX HR HN h3
    go_wp2_with (go_at_call 71; refine HR1.out.mono ?_; rintro e w5 ⟨rfl, hp⟩)
    go_end0
    exact hp
  · have HM1 := Rg.hid (HM.out (.inr rfl) w3 p3 q3 h3.out)
    clear HM HO HF HR HN h3
    cases bT with
    | true =>
      go_upto_region 9 with (go_at_call 70; refine HM1.out.mono ?_; rintro e w4 ⟨rfl, hs4, fr4⟩)
      obtain ⟨p4, q4, h4⟩ := hs4.out
      have HC1 := Rg.hid (HC.out (by trivial) (by trivial) w4 p4 q4 h4 (f3.out.trans fr4.out))
      clear HM1 HC HX hs4 fr4 h4 c1
      go_wp2_with (go_at_call 46; refine HC1.out.mono ?_; rintro e w5 ⟨rfl, hp⟩)
      go_end0
      exact hp
    | false =>
      go_upto_region 10 with (go_at_call 70; refine HM1.out.mono ?_; rintro e w4 ⟨rfl, hs4, fr4⟩)
      obtain ⟨p4, q4, h4⟩ := hs4.out
      have d1' : w4.cell? ⟨eb, 1, none⟩ = some (.int .i64 d2.phase) := h4.bk.cell 1
      have d3' : w4.cell? ⟨eb, 3, none⟩ = some (.int .i64 d2.step) := h4.bk.cell 3
      have fz := h4.bk.thaw
      have h5 := Rg.hid ((h4.upd 1 (.int .i64 4) { d2 with phase := 4 } rfl rfl rfl rfl rfl).upd 3 (.int .i64 0) { d2 with phase := 4, step := 0 } rfl rfl rfl rfl rfl)
      have f5 := Rg.hid (((f3.out.trans fr4.out).trans (Fr.set h4.new 1 (.int .i64 4))).trans (Fr.set h4.new 3 (.int .i64 0)))
      clear hs4 fr4 h4 HM1 HC c1
      go_wp2
      generalize World.setCell _ _ _ = w5 at *
      go_end0
      exact HX.out (by trivial) (by trivial) w5 ⟨_, _, h5.out⟩ f5.out
  · have hp := HN.out (.inl rfl) w3 ⟨_, _, h3.out⟩ f3.out
    clear HM HO HF HC HX HR HN h3
    go_wp2
    go_end0
    exact hp
  · have hp := HN.out (.inr rfl) w3 ⟨_, _, h3.out⟩ f3.out
    clear HM HO HF HC HX HR HN h3
    go_wp2
    go_end0
    exact hp
set_option maxHeartbeats 2000000 in
set_option maxRecDepth 100000 in
theorem tick_dropped {Kp : Nat → Prop} {base eb : Nat} {W : World} {d : Gp.Dr} {p : Pl} {q : Bu} {S C : List UInt8} (h : EAt Kp base W eb d p q S C) (d1 d2 : Gp.Dr) (bT : Bool) (hp1 : d1.phase = d.phase) (Post : Ending → World → Prop)
    (HM : Hid (d.phase = 1 ∨ d.phase = 3 → ∀ W1 p1 q1, EAt Kp base W1 eb d1 p1 q1 S C → Calls Tryz.prog 70 #[.pointer (some ⟨eb, 0, none⟩)] W1 fun e w' => e = .returned (.bool bT) ∧ Hid (ES Kp base w' eb d2 S C) ∧ Hid (Fr base eb W1 w')))
    (HO : Hid (d.phase = 1 → bT = true → ∀ W1 p1 q1, EAt Kp base W1 eb d2 p1 q1 S C → Fr base eb W W1 → Calls Tryz.prog 26 #[.pointer (some ⟨eb, 0, none⟩), .int .i64 d2.step] W1 fun e w' => e = .returned (.tuple #[]) ∧ Post (.returned (.tuple #[])) w'))
    (HF : Hid (d.phase = 1 → bT = false → ∀ W1, ES Kp base W1 eb d2 S C → Fr base eb W W1 → Post (.returned (.tuple #[])) W1))
    (HC : Hid (d.phase = 3 → bT = true → ∀ W1 p1 q1, EAt Kp base W1 eb d2 p1 q1 S C → Fr base eb W W1 → Calls Tryz.prog 46 #[.pointer (some ⟨eb, 0, none⟩)] W1 fun e w' => e = .returned (.tuple #[]) ∧ Post (.returned (.tuple #[])) w'))
    (HX : Hid (d.phase = 3 → bT = false → ∀ W1, ES Kp base W1 eb { d2 with phase := 4, step := 0 } S C → Fr base eb W W1 → Post (.returned (.tuple #[])) W1))
    (HR : Hid (d.phase = 2 → ∀ W1 p1 q1, EAt Kp base W1 eb d1 p1 q1 S C → Fr base eb W W1 → Calls Tryz.prog 71 #[.pointer (some ⟨eb, 0, none⟩)] W1 fun e w' => e = .returned (.tuple #[]) ∧ Post (.returned (.tuple #[])) w'))
    (HN : Hid (d.phase = 4 ∨ d.phase = 5 → ∀ W1, ES Kp base W1 eb d1 S C → Fr base eb W W1 → Post (.returned (.tuple #[])) W1)) (h15 : 1 ≤ d.phase ∧ d.phase ≤ 5) (A : Int) (ha : bits .and .i64 d.wait 2 = A) (ha0 : (A == 0) = true) (dc : Gp.Dr) (hd1 : d1 = { dc with wait := 0 }) (BL : Nat) (hBL : (⟨d.buf.toArray⟩ : ByteArray).size = BL)
    (HT : Hid (Calls Tryz.prog 57 #[.pointer (some ⟨eb, 0, none⟩), .int .i64 (BL : Int)] W fun e w' => e = .returned (.tuple #[]) ∧ Hid (ES Kp base w' eb dc S C) ∧ Hid (Fr base eb W w'))) :
    Calls Tryz.prog 39 #[.pointer (some ⟨eb, 0, none⟩)] W Post := by
  have c15 : W.cell? ⟨eb, 15, none⟩ = some (.int .i64 d.wait) := h.bk.cell 15
  have c12 : W.cell? ⟨eb, 12, none⟩ = some (.string ⟨d.buf.toArray⟩) := h.bk.cell 12
  clear h
  generalize (⟨d.buf.toArray⟩ : ByteArray) = B at *
  subst hBL
  go_enter Tryz.func39, Tryz.ntmps39
  go_upto_region 2 with (go_at_call 57; refine HT.out.mono ?_; rintro e w2 ⟨rfl, hs2, fr2⟩)
  obtain ⟨p3, q3, h2⟩ := hs2.out
  clear c15 c12 ha ha0 HT
  have c15 : w2.cell? ⟨eb, 15, none⟩ = some (.int .i64 dc.wait) := h2.bk.cell 15
  have fz := h2.bk.thaw
  have h3 : Hid (EAt Kp base (w2.setCell ⟨eb, 15, none⟩ (.int .i64 0)) eb d1 p3 q3 S C) := by rw [hd1]; exact h2.upd 15 (.int .i64 0) { dc with wait := 0 } rfl rfl rfl rfl rfl
  have f3 : Hid (Fr base eb W (w2.setCell ⟨eb, 15, none⟩ (.int .i64 0))) := fr2.out.trans (Fr.set h2.new _ _)
  clear hs2 fr2 h2 hd1
  go_upto_region 3 with fail
  generalize World.setCell _ _ _ = w3 at *
  clear c15 fz
  have c1 : w3.cell? ⟨eb, 1, none⟩ = some (.int .i64 d.phase) := by rw [← hp1]; exact h3.out.bk.cell 1
  obtain ⟨ph, hph⟩ : ∃ ph, d.phase = ph := ⟨_, rfl⟩
  rw [hph] at c1 HM HO HF HC HX HR HN h15
  clear hp1 hph
  obtain rfl | rfl | rfl | rfl | rfl : ph = 1 ∨ ph = 2 ∨ ph = 3 ∨ ph = 4 ∨ ph = 5 := by omega
  · have HM1 := Rg.hid (HM.out (.inl rfl) w3 p3 q3 h3.out)
    clear HM HC HX HR HN h3
    cases bT with
    | true =>
      go_upto_region 6 with (go_at_call 70; refine HM1.out.mono ?_; rintro e w4 ⟨rfl, hs4, fr4⟩)
      obtain ⟨p4, q4, h4⟩ := hs4.out
      have HO1 := Rg.hid (HO.out (by trivial) (by trivial) w4 p4 q4 h4 (f3.out.trans fr4.out))
      have c3 : w4.cell? ⟨eb, 3, none⟩ = some (.int .i64 d2.step) := h4.bk.cell 3
      clear HM1 HO HF hs4 fr4 h4 c1
      go_wp2_with (go_at_call 26; refine HO1.out.mono ?_; rintro e w5 ⟨rfl, hp⟩)
      go_end0
      exact hp
    | false =>
      go_wp2_with (go_at_call 70; refine HM1.out.mono ?_; rintro e w4 ⟨rfl, hs4, fr4⟩)
      go_end0
      exact HF.out (by trivial) (by trivial) w4 hs4.out (f3.out.trans fr4.out)
  · have HR1 := Rg.hid (HR.out rfl w3 p3 q3 h3.out f3.out)
    clear HM HO HF HC HX HR HN h3
    go_wp2_with (go_at_call 71; refine HR1.out.mono ?_; rintro e w5 ⟨rfl, hp⟩)
    go_end0
    exact hp
  · have HM1 := Rg.hid (HM.out (.inr rfl) w3 p3 q3 h3.out)
    clear HM HO HF HR HN h3
    cases bT with
    | true =>
      go_upto_region 9 with (go_at_call 70; refine HM1.out.mono ?_; rintro e w4 ⟨rfl, hs4, fr4⟩)
      obtain ⟨p4, q4, h4⟩ := hs4.out
      have HC1 := Rg.hid (HC.out (by trivial) (by trivial) w4 p4 q4 h4 (f3.out.trans fr4.out))
      clear HM1 HC HX hs4 fr4 h4 c1
      go_wp2_with (go_at_call 46; refine HC1.out.mono ?_; rintro e w5 ⟨rfl, hp⟩)
      go_end0
      exact hp
    | false =>
      go_upto_region 10 with (go_at_call 70; refine HM1.out.mono ?_; rintro e w4 ⟨rfl, hs4, fr4⟩)
      obtain ⟨p4, q4, h4⟩ := hs4.out
      have d1' : w4.cell? ⟨eb, 1, none⟩ = some (.int .i64 d2.phase) := h4.bk.cell 1
      have d3' : w4.cell? ⟨eb, 3, none⟩ = some (.int .i64 d2.step) := h4.bk.cell 3
      have fz := h4.bk.thaw
      have h5 := Rg.hid ((h4.upd 1 (.int .i64 4) { d2 with phase := 4 } rfl rfl rfl rfl rfl).upd 3 (.int .i64 0) { d2 with phase := 4, step := 0 } rfl rfl rfl rfl rfl)
      have f5 := Rg.hid (((f3.out.trans fr4.out).trans (Fr.set h4.new 1 (.int .i64 4))).trans (Fr.set h4.new 3 (.int .i64 0)))
      clear hs4 fr4 h4 HM1 HC c1
      go_wp2
      generalize World.setCell _ _ _ = w5 at *
      go_end0
      exact HX.out (by trivial) (by trivial) w5 ⟨_, _, h5.out⟩ f5.out
  · have hp := HN.out (.inl rfl) w3 ⟨_, _, h3.out⟩ f3.out
    clear HM HO HF HC HX HR HN h3
    go_wp2
    go_end0
    exact hp
  · have hp := HN.out (.inr rfl) w3 ⟨_, _, h3.out⟩ f3.out
    clear HM HO HF HC HX HR HN h3
    go_wp2
    go_end0
    exact hp
end Go.Proofs.YtfiffbohhhehkaaGreat

namespace Go.Proofs.YtfiffbohhhehkaaGreat
open Go.RowKit
set_option maxHeartbeats 1000000 in
theorem isIn_yes (n a b : Int) (w : World) (h1 : decide (a ≤ n) = true) (h2 : decide (n ≤ b) = true) : Calls Tryz.prog 50 #[.int .i64 n, .int .i64 a, .int .i64 b] w fun e w' => e = .returned (.bool true) ∧ w' = w := by
  go_enter Tryz.func50, Tryz.ntmps50
  go_wp2
  go_ret
  exact ⟨rfl, rfl⟩
theorem isIn_true {n a b : Int} (h1 : a ≤ n) (h2 : n ≤ b) (w : World) : Calls Tryz.prog 50 #[.int .i64 n, .int .i64 a, .int .i64 b] w fun e w' => e = .returned (.bool true) ∧ w' = w := isIn_yes n a b w (by simpa using h1) (by simpa using h2)
set_option maxHeartbeats 1000000 in
set_option maxRecDepth 100000 in
theorem mayBe_G (z r : Int) (K : Nat) (w : World) (hK : ((K : Int) == 0) = false) (HC : Hid (∀ W, Calls Tryz.prog 53 #[.int .i64 z] W fun e w' => e = .returned (.int .i64 (K : Int)) ∧ w' = W)) (HI : Hid (∀ W, Calls Tryz.prog 50 #[.int .i64 r, .int .i64 1, .int .i64 7] W fun e w' => e = .returned (.bool true) ∧ w' = W)) :
    Calls Tryz.prog 25 #[.int .i64 71, .int .i64 z, .int .i64 r] w fun e w' => e = .returned (.bool true) ∧ w' = w := by
  go_enter Tryz.func25, Tryz.ntmps25
  go_wp2_with (first | (go_at_call 53; refine (HC.out _).mono ?_; rintro e w1 ⟨rfl, hw⟩; obtain rfl := hw.symm) | (go_at_call 50; refine (HI.out _).mono ?_; rintro e w1 ⟨rfl, hw⟩; obtain rfl := hw.symm))
  go_ret
  exact ⟨rfl, rfl⟩
set_option maxHeartbeats 1000000 in
set_option maxRecDepth 100000 in
theorem mayBe_g (z r : Int) (K : Nat) (w : World) (hK : ((K : Int) == 0) = false) (hz : decide (z ≤ 64) = true) (HC : Hid (∀ W, Calls Tryz.prog 53 #[.int .i64 z] W fun e w' => e = .returned (.int .i64 (K : Int)) ∧ w' = W)) (HI : Hid (∀ W, Calls Tryz.prog 50 #[.int .i64 r, .int .i64 1, .int .i64 7] W fun e w' => e = .returned (.bool true) ∧ w' = W)) :
    Calls Tryz.prog 25 #[.int .i64 103, .int .i64 z, .int .i64 r] w fun e w' => e = .returned (.bool true) ∧ w' = w := by
  go_enter Tryz.func25, Tryz.ntmps25
  go_wp2_with (first | (go_at_call 53; refine (HC.out _).mono ?_; rintro e w1 ⟨rfl, hw⟩; obtain rfl := hw.symm) | (go_at_call 50; refine (HI.out _).mono ?_; rintro e w1 ⟨rfl, hw⟩; obtain rfl := hw.symm))
  go_ret
  exact ⟨rfl, rfl⟩
theorem gmayBe_yes {lt z r : Int} (h1 : lt = 103 ∨ lt = 71) (h2 : Gf.code z ≠ 0) (h3 : lt = 103 → z ≤ 64) (h4 : 1 ≤ r) (h5 : r ≤ 7) (w : World) : Calls Tryz.prog 25 #[.int .i64 lt, .int .i64 z, .int .i64 r] w fun e w' => e = .returned (.bool true) ∧ w' = w := by
  have hK : ((Gf.code z : Int) == 0) = false := by simp; omega
  rcases h1 with rfl | rfl
  · exact mayBe_g z r _ w hK (by simpa using h3 rfl) (gcode_any z) (isIn_true h4 h5)
  · exact mayBe_G z r _ w hK (gcode_any z) (isIn_true h4 h5)
set_option maxHeartbeats 1000000 in
set_option maxRecDepth 100000 in
theorem isEmpty_no (x : Gp.Pc) (w : World) (h : (x.data.toList == []) = false) : Calls Tryz.prog 49 #[.agg #[.int .i64 x.ch, .string x.data]] w fun e w' => e = .returned (.bool false) ∧ Below w.heap.size w w' := by
  go_enter Tryz.func49, Tryz.ntmps49
  go_wp2
  go_ret
  exact ⟨rfl, Rg.al1 _ _⟩
theorem egE : ∀ args w, (callFunc 49 args).run Tryz.prog w = .ok (.enter 49 args) w := enters_of Tryz.func49 (by kernel_rfl) rfl
set_option maxHeartbeats 1000000 in
set_option maxRecDepth 100000 in
theorem indexFunc_no (l : List Gp.Pc) (n : Nat) (hn : Hid (n = l.length)) (hn1 : n ≤ 100000) (a : Option Addr) (c : Nat) (w : World) (hr : Hid (ERow pcE w a l)) (HE : Hid (∀ x ∈ l, ∀ W, Calls Tryz.prog 49 #[.agg #[.int .i64 x.ch, .string x.data]] W fun e w' => e = .returned (.bool false) ∧ Below W.heap.size W w')) :
    Calls Tryz.prog 75 #[.slice a n c, .func (.func 49) #[] #[]] w fun e w' => e = .returned (.int .i64 (-1)) ∧ Below w.heap.size w w' := by
  have eg := egE
  go_enter Tryz.func75, Tryz.ntmps75
  go_wp2
  go_loopw [8] (fun vi wr => ∃ i : Nat, i ≤ n ∧ vi = .int .i64 i ∧ Below w.heap.size w wr) (fun vi _ => n - (intOf vi).toNat)
  case atStart => exact ⟨0, Nat.zero_le _, rfl, Below.refl _ _⟩
  case round =>
    obtain ⟨i, hin, rfl, hbw⟩ := hrel
    by_cases hlt : i < n
    · have hil : i < l.length := by rw [← hn.out]; exact hlt
      obtain ⟨b1, o1, rfl, _, _, y1⟩ := (hr.out.below hbw).cell hil
      have HX := Rg.hid (HE.out _ (List.getElem_mem hil))
      replace y1 := pc_at y1
      generalize l[i] = x at y1 HX
      obtain ⟨c0, c1⟩ := y1
      have em : pcE.m = 2 := rfl
      rw [em] at c0 c1
      have iz0 : (0 : Int) ≤ (i : Int) := by omega
      have iz1 : (i : Int) < (n : Int) := by omega
      clear hr hil em HE
      go_wp2_with (go_at_fn 49; refine (HX.out _).mono ?_; rintro e w2 ⟨rfl, b2⟩)
      go_roundw
      case rel => exact ⟨i + 1, by omega, by go_num, Rg.chain hbw b2⟩
      case measure => simp [intOf]; omega
    · have hie : i = n := by omega
      subst hie
      go_wp2
      go_ret
      exact ⟨rfl, hbw⟩
set_option maxHeartbeats 1000000 in
set_option maxRecDepth 100000 in
theorem containsFunc_no (a : Option Addr) (n c : Nat) (w : World) (HI : Hid (∀ W, Below w.heap.size w W → Calls Tryz.prog 75 #[.slice a n c, .func (.func 49) #[] #[]] W fun e w' => e = .returned (.int .i64 (-1)) ∧ Below W.heap.size W w')) :
    Calls Tryz.prog 48 #[.slice a n c, .func (.func 49) #[] #[]] w fun e w' => e = .returned (.bool false) ∧ Below w.heap.size w w' := by
  go_enter Tryz.func48, Tryz.ntmps48
  go_wp2_with (go_at_call 75; refine (HI.out _ (Below.refl _ _)).mono ?_; rintro e w2 ⟨rfl, b2⟩)
  go_ret
  exact ⟨rfl, b2⟩
set_option maxHeartbeats 2000000 in
set_option maxRecDepth 100000 in
theorem hasRightNumbers_yes (d : Gp.Dr) (p : Pl) (w : World) (h1 : 0 ≤ d.wants) (h2 : d.wants ≤ 7) (h3 : 0 ≤ d.at_) (h4 : d.at_ ≤ 1099511627776) (h5 : 0 ≤ d.wait) (h6 : d.wait ≤ 3) (h7 : 0 ≤ d.tries) (h8 : d.tries ≤ 13) :
    Calls Tryz.prog 47 #[DV d p] w fun e w' => e = .returned (.bool true) ∧ Below w.heap.size w w' := by
  have H1 : Hid (∀ W, Calls Tryz.prog 50 #[.int .i64 d.wants, .int .i64 0, .int .i64 7] W fun e w' => e = .returned (.bool true) ∧ w' = W) := isIn_true h1 h2
  have H2 : Hid (∀ W, Calls Tryz.prog 50 #[.int .i64 d.at_, .int .i64 0, .int .i64 1099511627776] W fun e w' => e = .returned (.bool true) ∧ w' = W) := isIn_true h3 h4
  have H3 : Hid (∀ W, Calls Tryz.prog 50 #[.int .i64 d.wait, .int .i64 0, .int .i64 3] W fun e w' => e = .returned (.bool true) ∧ w' = W) := isIn_true h5 h6
  have H4 : Hid (∀ W, Calls Tryz.prog 50 #[.int .i64 d.tries, .int .i64 0, .int .i64 13] W fun e w' => e = .returned (.bool true) ∧ w' = W) := isIn_true h7 h8
  have kB : Hid (Rg.Bk w.heap.size [.int .i64 d.letter, .int .i64 d.phase, .bool d.caller, .int .i64 d.step, .int .i64 d.size, .int .i64 d.room, .int .i64 d.win.md, .int .i64 d.win.sz, .int .i64 d.win.bs, .slice p.w d.win.l.length p.wc, .int .i64 d.wants, .slice p.a d.ahead.length p.ac, .string ⟨d.buf.toArray⟩, .int .i64 d.at_, .slice p.q d.queue.length p.qc, .int .i64 d.wait, .int .i64 d.tries, .slice p.t d.took.length p.tc] 29 (w.alloc (.cells #[.int .i64 d.letter, .int .i64 d.phase, .bool d.caller, .int .i64 d.step, .int .i64 d.size, .int .i64 d.room, .int .i64 d.win.md, .int .i64 d.win.sz, .int .i64 d.win.bs, .slice p.w d.win.l.length p.wc, .int .i64 d.wants, .slice p.a d.ahead.length p.ac, .string ⟨d.buf.toArray⟩, .int .i64 d.at_, .slice p.q d.queue.length p.qc, .int .i64 d.wait, .int .i64 d.tries, .slice p.t d.took.length p.tc] 29))) := Rg.Bk.new rfl
  have hb := Rg.hid (Rg.al1 w (.cells #[.int .i64 d.letter, .int .i64 d.phase, .bool d.caller, .int .i64 d.step, .int .i64 d.size, .int .i64 d.room, .int .i64 d.win.md, .int .i64 d.win.sz, .int .i64 d.win.bs, .slice p.w d.win.l.length p.wc, .int .i64 d.wants, .slice p.a d.ahead.length p.ac, .string ⟨d.buf.toArray⟩, .int .i64 d.at_, .slice p.q d.queue.length p.qc, .int .i64 d.wait, .int .i64 d.tries, .slice p.t d.took.length p.tc] 29))
  unfold DV
  go_enter Tryz.func47, Tryz.ntmps47
  go_upto_region 1 with fail
  generalize World.alloc _ _ = w1 at *
  obtain ⟨B, hB⟩ : ∃ B, B = w.heap.size := ⟨_, rfl⟩
  rw [← hB] at kB ⊢
  replace hB := Rg.hid hB
  have z10 : w1.cell? ⟨B, 10, none⟩ = some (.int .i64 d.wants) := kB.out.cell 10
  have z13 : w1.cell? ⟨B, 13, none⟩ = some (.int .i64 d.at_) := kB.out.cell 13
  have z15 : w1.cell? ⟨B, 15, none⟩ = some (.int .i64 d.wait) := kB.out.cell 15
  have z16 : w1.cell? ⟨B, 16, none⟩ = some (.int .i64 d.tries) := kB.out.cell 16
  clear h1 h2 h3 h4 h5 h6 h7 h8 kB
  generalize d.wants = x1 at *
  generalize d.at_ = x2 at *
  generalize d.wait = x3 at *
  generalize d.tries = x4 at *
  go_wp2_with (go_at_call 50; (first | with_reducible refine (H1.out _).mono ?_ | with_reducible refine (H2.out _).mono ?_ | with_reducible refine (H3.out _).mono ?_ | with_reducible refine (H4.out _).mono ?_); rintro e w2 ⟨rfl, hw⟩; obtain rfl := hw.symm)
  go_ret
  exact ⟨rfl, hb.out⟩
set_option maxHeartbeats 4000000 in
set_option maxRecDepth 100000 in
theorem hasRightWindow_yes (d : Gp.Dr) (p : Pl) (w : World) (hr : Gp.runs d) (h7 : d.room ≤ 7) (hrow : Hid (SRow w p.w d.win.l)) :
    Calls Tryz.prog 51 #[DV d p] w fun e w' => e = .returned (.bool true) ∧ Below w.heap.size w w' := by
  obtain ⟨r1, r2, r3, r4, r5, r6, r7, r8⟩ := hr
  have H1 : Hid (∀ W, Calls Tryz.prog 50 #[.int .i64 d.win.bs, .int .i64 0, .int .i64 7] W fun e w' => e = .returned (.bool true) ∧ w' = W) := isIn_true r6 (by omega)
  have H2 : Hid (∀ i (_ : i < d.win.l.length) W, Calls Tryz.prog 50 #[.int .i64 d.win.l[i].size, .int .i64 1, .int .i64 d.size] W fun e w' => e = .returned (.bool true) ∧ w' = W) := fun i hi W => by
    have := r1 _ (List.getElem_mem hi)
    exact isIn_true (by omega) this.2 W
  have kB : Hid (Rg.Bk w.heap.size [.int .i64 d.letter, .int .i64 d.phase, .bool d.caller, .int .i64 d.step, .int .i64 d.size, .int .i64 d.room, .int .i64 8, .int .i64 d.room, .int .i64 d.win.bs, .slice p.w d.win.l.length p.wc, .int .i64 d.wants, .slice p.a d.ahead.length p.ac, .string ⟨d.buf.toArray⟩, .int .i64 d.at_, .slice p.q d.queue.length p.qc, .int .i64 d.wait, .int .i64 d.tries, .slice p.t d.took.length p.tc] 29 ((w.alloc (.cells #[.int .i64 d.letter, .int .i64 d.phase, .bool d.caller, .int .i64 d.step, .int .i64 d.size, .int .i64 d.room, .int .i64 8, .int .i64 d.room, .int .i64 d.win.bs, .slice p.w d.win.l.length p.wc, .int .i64 d.wants, .slice p.a d.ahead.length p.ac, .string ⟨d.buf.toArray⟩, .int .i64 d.at_, .slice p.q d.queue.length p.qc, .int .i64 d.wait, .int .i64 d.tries, .slice p.t d.took.length p.tc] 29)).alloc (.cells #[.int .i64 8, .int .i64 d.room, .int .i64 d.win.bs, .slice p.w d.win.l.length p.wc] 24))) := (Rg.Bk.new rfl).old _
  have kV : Hid (Rg.Bk (w.heap.size + 1) [.int .i64 8, .int .i64 d.room, .int .i64 d.win.bs, .slice p.w d.win.l.length p.wc] 24 ((w.alloc (.cells #[.int .i64 d.letter, .int .i64 d.phase, .bool d.caller, .int .i64 d.step, .int .i64 d.size, .int .i64 d.room, .int .i64 8, .int .i64 d.room, .int .i64 d.win.bs, .slice p.w d.win.l.length p.wc, .int .i64 d.wants, .slice p.a d.ahead.length p.ac, .string ⟨d.buf.toArray⟩, .int .i64 d.at_, .slice p.q d.queue.length p.qc, .int .i64 d.wait, .int .i64 d.tries, .slice p.t d.took.length p.tc] 29)).alloc (.cells #[.int .i64 8, .int .i64 d.room, .int .i64 d.win.bs, .slice p.w d.win.l.length p.wc] 24))) := Rg.Bk.new (by simp)
  have hb := Rg.hid (Rg.al2 w (.cells #[.int .i64 d.letter, .int .i64 d.phase, .bool d.caller, .int .i64 d.step, .int .i64 d.size, .int .i64 d.room, .int .i64 8, .int .i64 d.room, .int .i64 d.win.bs, .slice p.w d.win.l.length p.wc, .int .i64 d.wants, .slice p.a d.ahead.length p.ac, .string ⟨d.buf.toArray⟩, .int .i64 d.at_, .slice p.q d.queue.length p.qc, .int .i64 d.wait, .int .i64 d.tries, .slice p.t d.took.length p.tc] 29) (.cells #[.int .i64 8, .int .i64 d.room, .int .i64 d.win.bs, .slice p.w d.win.l.length p.wc] 24))
  have el : decide (d.room < (d.win.l.length : Int)) = false := by simp; omega
  have hn7 : d.win.l.length ≤ 7 := by omega
  unfold DV
  rw [r4, r5]
  clear r2 r3 r4 r5
  go_enter Tryz.func51, Tryz.ntmps51
  go_upto_region 2 with fail
  generalize World.alloc _ _ = w1 at *
  obtain ⟨B, hB⟩ : ∃ B, B = w.heap.size := ⟨_, rfl⟩
  obtain ⟨V, hV⟩ : ∃ V, V = w.heap.size + 1 := ⟨_, rfl⟩
  rw [← hV] at kV ⊢
  rw [← hB] at kB ⊢
  replace hB := Rg.hid hB
  replace hV := Rg.hid hV
  obtain ⟨n, hn⟩ : ∃ n, d.win.l.length = n := ⟨_, rfl⟩
  have y0 : w1.cell? ⟨V, 0, none⟩ = some (.int .i64 8) := kV.out.cell 0
  have y1 : w1.cell? ⟨V, 1, none⟩ = some (.int .i64 d.room) := kV.out.cell 1
  have y2 : w1.cell? ⟨V, 2, none⟩ = some (.int .i64 d.win.bs) := kV.out.cell 2
  have y3 : w1.cell? ⟨V, 3, none⟩ = some (.slice p.w n p.wc) := by rw [← hn]; exact kV.out.cell 3
  have z5 : w1.cell? ⟨B, 5, none⟩ = some (.int .i64 d.room) := kB.out.cell 5
  rw [hn] at el hn7
  replace hn := Rg.hid hn
  clear r1 r6 r7 r8 kV h7
  generalize d.win.bs = wb at *
  generalize d.room = rm at *
  go_upto_region 4 with (go_at_call 50; refine (H1.out _).mono ?_; rintro e w2 ⟨rfl, hw⟩; obtain rfl := hw.symm)
  clear y0 y1 y2 z5 el H1
  go_wp2
  clear y3
  go_loopw [35] (fun vi wr => ∃ i : Nat, i ≤ n ∧ vi = .int .i64 i ∧ wr = w1) (fun vi _ => n - (intOf vi).toNat)
  case atStart => exact ⟨0, Nat.zero_le _, rfl, rfl⟩
  case round =>
    obtain ⟨i, hin, rfl, rfl⟩ := hrel
    by_cases hlt : i < n
    · have hil : i < d.win.l.length := by rw [hn.out]; exact hlt
      obtain ⟨b1, o1, hbo, _, _, k1⟩ := (hrow.out.below hb.out).cell hil
      have HI := Rg.hid (H2.out i hil)
      have z4 : wr.cell? ⟨B, 4, none⟩ = some (.int .i64 d.size) := kB.out.cell 4
      rw [hbo]
      generalize d.win.l[i] = x at *
      generalize d.size = sz at *
      have iz0 : (0 : Int) ≤ (i : Int) := by omega
      have iz1 : (i : Int) < (n : Int) := by omega
      clear hrow H2 kB hil
      go_wp2_with (go_at_call 50; refine (HI.out _).mono ?_; rintro e w2 ⟨rfl, hw⟩; obtain rfl := hw.symm)
      go_roundw
      case rel => exact ⟨i + 1, by omega, by go_num, trivial⟩
      case measure => simp [intOf]; omega
    · have hie : i = n := by omega
      subst hie
      go_wp2
      go_ret
      exact ⟨rfl, hb.out⟩
end Go.Proofs.YtfiffbohhhehkaaGreat

namespace Go.Proofs.YtfiffbohhhehkaaGreat
open Go.RowKit
theorem infoDr2 : (Tryz.prog.info? 29).map (·.size) = some 18 := by kernel_rfl
set_option maxHeartbeats 4000000 in
set_option maxRecDepth 100000 in
theorem right_go (d : Gp.Dr) (p : Pl) (w : World) (ha : d.ahead.length = 0) (ph : Int) (hph : d.phase = ph) (hp5 : ph = 1 ∨ ph = 2 ∨ ph = 3 ∨ ph = 4 ∨ ph = 5)
    (HM : Hid (∀ W, Calls Tryz.prog 25 #[.int .i64 d.letter, .int .i64 d.size, .int .i64 d.room] W fun e w' => e = .returned (.bool true) ∧ w' = W))
    (HN : Hid (∀ W, Calls Tryz.prog 47 #[DV d p] W fun e w' => e = .returned (.bool true) ∧ Below W.heap.size W w'))
    (HQ : Hid (∀ W, Below w.heap.size w W → Calls Tryz.prog 48 #[.slice p.q d.queue.length p.qc, .func (.func 49) #[] #[]] W fun e w' => e = .returned (.bool false) ∧ Below W.heap.size W w'))
    (H1 : Hid (ph = 1 → (∀ W, Calls Tryz.prog 50 #[.int .i64 d.step, .int .i64 0, .int .i64 2] W fun e w' => e = .returned (.bool true) ∧ w' = W) ∧ d.win.l.length = 0))
    (H2 : Hid (ph = 2 → (∀ W, Calls Tryz.prog 50 #[.int .i64 d.step, .int .i64 (-1), .int .i64 7] W fun e w' => e = .returned (.bool true) ∧ w' = W) ∧ (∀ W, Below w.heap.size w W → Calls Tryz.prog 51 #[DV d p] W fun e w' => e = .returned (.bool true) ∧ Below W.heap.size W w'))) :
    Calls Tryz.prog 21 #[DV d p] w fun e w' => e = .returned (.bool true) ∧ Below w.heap.size w w' := by
  obtain ⟨CS, hCS⟩ : ∃ CS : Array Value, CS = #[.int .i64 d.letter, .int .i64 d.phase, .bool d.caller, .int .i64 d.step, .int .i64 d.size, .int .i64 d.room, .int .i64 d.win.md, .int .i64 d.win.sz, .int .i64 d.win.bs, .slice p.w d.win.l.length p.wc, .int .i64 d.wants, .slice p.a d.ahead.length p.ac, .string ⟨d.buf.toArray⟩, .int .i64 d.at_, .slice p.q d.queue.length p.qc, .int .i64 d.wait, .int .i64 d.tries, .slice p.t d.took.length p.tc] := ⟨_, rfl⟩
  have hin : (Tryz.prog.info? 29).map (·.size) = some CS.size := by rw [hCS]; exact infoDr2
  have eDV : DV d p = .agg CS := by rw [hCS]; rfl
  rw [eDV] at HN H2 ⊢
  have kB : Hid (Rg.Bk w.heap.size CS.toList 29 (w.alloc (.cells CS 29))) := Rg.Bk.new rfl
  have hb := Rg.hid (Rg.al1 w (.cells CS 29))
  replace hCS := Rg.hid hCS
  clear eDV
  go_enter Tryz.func21, Tryz.ntmps21
  go_upto_region 1 with fail
  generalize World.alloc _ _ = w1 at *
  obtain ⟨B, hB⟩ : ∃ B, B = w.heap.size := ⟨_, rfl⟩
  rw [← hB] at kB ⊢
  replace hB := Rg.hid hB
  have hld : Hid (∀ W, Below w1.heap.size w1 W → (loadVar 29 ⟨B, 0, none⟩).run Tryz.prog W = .ok (.agg CS) W) := fun W hW => Rg.row_loadVar (P := Tryz.prog) (t := 29) (CS := CS) (kB.out.below hW kB.out.lt) Tryz.underlying29 rfl hin
  have hz : Hid (∀ W, Below w1.heap.size w1 W → Rg.Bk B [.int .i64 d.letter, .int .i64 d.phase, .bool d.caller, .int .i64 d.step, .int .i64 d.size, .int .i64 d.room, .int .i64 d.win.md, .int .i64 d.win.sz, .int .i64 d.win.bs, .slice p.w d.win.l.length p.wc, .int .i64 d.wants, .slice p.a d.ahead.length p.ac, .string ⟨d.buf.toArray⟩, .int .i64 d.at_, .slice p.q d.queue.length p.qc, .int .i64 d.wait, .int .i64 d.tries, .slice p.t d.took.length p.tc] 29 W) := fun W hW => by
    have := kB.out.below hW kB.out.lt
    rw [hCS.out] at this
    exact this
  clear hin kB hCS
  have z0 : w1.cell? ⟨B, 0, none⟩ = some (.int .i64 d.letter) := (hz.out w1 (Below.refl _ _)).cell 0
  have z4 : w1.cell? ⟨B, 4, none⟩ = some (.int .i64 d.size) := (hz.out w1 (Below.refl _ _)).cell 4
  have z5 : w1.cell? ⟨B, 5, none⟩ = some (.int .i64 d.room) := (hz.out w1 (Below.refl _ _)).cell 5
  have hl1 := Rg.hid (hld.out w1 (Below.refl _ _))
  go_upto_region 3 with (first | (refine Rg.wpList_load_row rfl (.tmp 1) 29 rfl rfl hl1.out ?_) | (go_at_call 25; refine (HM.out _).mono ?_; rintro e w2 ⟨rfl, hw⟩; obtain rfl := hw.symm) | (go_at_call 47; refine (HN.out _).mono ?_; rintro e w2 ⟨rfl, b2⟩))
  clear z0 z4 z5 hl1 HM HN
  have z11 : w2.cell? ⟨B, 11, none⟩ = some (.slice p.a 0 p.ac) := by rw [← ha]; exact (hz.out w2 b2).cell 11
  have z14 : w2.cell? ⟨B, 14, none⟩ = some (.slice p.q d.queue.length p.qc) := (hz.out w2 b2).cell 14
  go_upto_region 5 with (go_at_call 48; refine (HQ.out _ (Rg.chain hb.out b2)).mono ?_; rintro e w3 ⟨rfl, b3⟩)
  clear z11 z14 HQ
  have b4 := Rg.chain b2 b3
  clear b2 b3
  have b5 := Rg.hid (Rg.chain hb.out b4)
  have z1 : w3.cell? ⟨B, 1, none⟩ = some (.int .i64 ph) := by rw [← hph]; exact (hz.out w3 b4).cell 1
  have z3 : w3.cell? ⟨B, 3, none⟩ = some (.int .i64 d.step) := (hz.out w3 b4).cell 3
  have z9 : w3.cell? ⟨B, 9, none⟩ = some (.slice p.w d.win.l.length p.wc) := (hz.out w3 b4).cell 9
  have hl3 := Rg.hid (hld.out w3 b4)
  clear hld hz hb b4 hph ha
  generalize d.step = st at *
  rcases hp5 with rfl | rfl | rfl | rfl | rfl
  · obtain ⟨HI, hw0⟩ := H1.out rfl
    replace HI := Rg.hid HI
    rw [hw0] at z9
    clear H1 H2 hl3 hw0
    go_wp2_with (go_at_call 50; refine (HI.out _).mono ?_; rintro e w2 ⟨rfl, hw⟩; obtain rfl := hw.symm)
    go_ret
    exact ⟨rfl, b5.out⟩
  · obtain ⟨HI, HW⟩ := H2.out rfl
    replace HI := Rg.hid HI
    have HW1 := Rg.hid (HW w3 b5.out)
    clear H1 H2 HW
    go_wp2_with (first | (refine Rg.wpList_load_row rfl (.tmp 1) 29 rfl rfl hl3.out ?_) | (go_at_call 50; refine (HI.out _).mono ?_; rintro e w2 ⟨rfl, hw⟩; obtain rfl := hw.symm) | (go_at_call 51; refine HW1.out.mono ?_; rintro e w4 ⟨rfl, b6⟩))
    go_ret
    exact ⟨rfl, Rg.chain b5.out b6⟩
  all_goals (
    clear H1 H2 hl3
    go_wp2
    go_ret
    exact ⟨rfl, b5.out⟩)
theorem right_yes (d : Gp.Dr) (p : Pl) (w : World) (hr : Gp.right d) (hw : SRow w p.w d.win.l) (hq : ERow pcE w p.q d.queue) (hql : d.queue.length ≤ 100000) :
    Calls Tryz.prog 21 #[DV d p] w fun e w' => e = .returned (.bool true) ∧ Below w.heap.size w w' := by
  have hp := hr.2
  obtain ⟨b1, b2, b3, b4, b5, b6, b7, b8, b9, b10, b11, b12, b13, b14, b15⟩ := hr.1
  have hph := phase_rng hr
  refine right_go d p w (by rw [b14]; rfl) d.phase rfl (by omega) (gmayBe_yes b1 b2 b3 b4 b5) (fun W => hasRightNumbers_yes d p W b6 b7 b8 b9 b10 b11 b12 b13) (fun W hW => ?_) (fun h1 => ?_) (fun h2 => ?_)
  · refine containsFunc_no p.q d.queue.length p.qc W fun W1 hW1 => indexFunc_no d.queue _ rfl hql p.q p.qc W1 ((hq.below hW).below hW1) fun x hx W2 => isEmpty_no x W2 ?_
    have := b15 x hx
    have h0 : ¬ x.data.toList = [] := fun e => this (by show x.data.data.size = 0; rw [← Array.length_toList, ← tl_eq, e]; rfl)
    simp [h0]
  · rcases hp with ⟨_, s0, s2, e⟩ | ⟨h, _⟩ | h | h | h
    · exact ⟨isIn_true s0 s2, by rw [e]; rfl⟩
    all_goals omega
  · rcases hp with ⟨h, _⟩ | ⟨_, hrun⟩ | h | h | h
    · omega
    · exact ⟨isIn_true hrun.2.1 hrun.2.2.1, fun W hW => hasRightWindow_yes d p W hrun b5 (hw.below hW)⟩
    all_goals omega
end Go.Proofs.YtfiffbohhhehkaaGreat
