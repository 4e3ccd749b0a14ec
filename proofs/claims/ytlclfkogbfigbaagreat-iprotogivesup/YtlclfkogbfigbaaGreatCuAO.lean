/-
  Walks of layer 16: all of the window is said. Walks of layer 16: tickRunning, tick.
-/
import Derived.Test.YtlclfkogbfigbaaGreatCuAN
namespace Go.Proofs.YtlclfkogbfigbaaGreat
open Go.RowKit
theorem Ip.allFrom_step (d : Gp.Dr) {l : List ByteArray} {i : Nat} (h : i < l.length) : Ip.allFrom d (l.drop i) i = Ip.packet d (Wn.num d.win i) l[i] ++ Ip.allFrom d (l.drop (i + 1)) (i + 1) := by
  rw [List.drop_eq_getElem_cons h]
  rfl
theorem ipacket_len {d : Gp.Dr} {n : Int} {s : ByteArray} (hz : d.size ≤ 4095) (hs : Ip.okText d.size s) : (Ip.packet d n s).length ≤ 4200 := by
  unfold Ip.packet Ip.pk
  rw [If.text_len]
  have h1 := hs.2.1
  have h2 : s.data.toList.tail.length = s.size - 1 := by rw [List.length_tail, Array.length_toList]; rfl
  have := If.bsz_le s.data.toList.tail.length
  show 6 + If.bsz s.data.toList.tail.length ≤ 4200
  omega
/-- what a round of sayWindow finds -/
structure IW (Kp : Nat → Prop) (eb : Nat) (d : Gp.Dr) (p : Pl) (ag : Option Nat) (cv : Value) (S : List UInt8) (C : List Gp.Pc) (w2 : World) (i : Nat) (wr : World) (Si : List UInt8) : Prop where
  es : ∃ s sb, IAt Kp wr eb d p ⟨s, sb, cv, ag⟩ Si C
  fr : Fr eb eb w2 wr
  out : Si ++ Ip.allFrom d (d.win.l.drop i) i = S ++ Ip.all d
  len : Si.length ≤ S.length + 4200 * i
set_option maxHeartbeats 2000000 in
set_option maxRecDepth 100000 in
theorem isayWindow_go {Kp : Nat → Prop} {W : World} {eb : Nat} {d : Gp.Dr} {p : Pl} {q : Qv} {S : List UInt8} {C : List Gp.Pc} (h : IAt Kp W eb d p q S C) (Post : Ending → World → Prop) (n : Nat) (hn : Hid (d.win.l.length = n)) (n7 : n ≤ 16)
    (HN : Hid (Calls Tryz.prog 127 #[.agg #[.int .i64 d.win.md, .int .i64 d.win.sz, .int .i64 d.win.bs, .slice p.w n p.wc]] W fun e w' => ∃ a c, e = .returned (.slice a n c) ∧ Hid (IAt Kp w' eb d p q S C) ∧ Hid (Fr eb eb W w') ∧ Hid (∀ i, i < n → ∃ g o, a = some ⟨g, o, none⟩ ∧ ∀ W2, Fr eb eb w' W2 → W2.cell? ⟨g, o + i, none⟩ = some (.int .i64 (Wn.num d.win i)))))
    (HS : Hid (∀ W1 W2 S1 (i : Nat) (_ : i < d.win.l.length), IW Kp eb d p q.ag q.cv S C W1 i W2 S1 → Calls Tryz.prog 94 #[.pointer (some ⟨eb, 0, none⟩), .int .i64 (Wn.num d.win i), .string d.win.l[i]] W2 fun e w' => e = .returned (.tuple #[]) ∧ ∃ S3, Hid (IW Kp eb d p q.ag q.cv S C W1 (i + 1) w' S3)))
    (HP : Hid (∀ W1 W2 S2, Fr eb eb W W1 → IW Kp eb d p q.ag q.cv S C W1 n W2 S2 → Post (.returned (.tuple #[])) W2)) :
    Calls Tryz.prog 105 #[.pointer (some ⟨eb, 0, none⟩)] W Post := by
  have c6 : W.cell? ⟨eb, 6, none⟩ = some (.int .i64 d.win.md) := h.bk.cell 6
  have c7 : W.cell? ⟨eb, 7, none⟩ = some (.int .i64 d.win.sz) := h.bk.cell 7
  have c8 : W.cell? ⟨eb, 8, none⟩ = some (.int .i64 d.win.bs) := h.bk.cell 8
  have c9 : W.cell? ⟨eb, 9, none⟩ = some (.slice p.w n p.wc) := by rw [← hn.out]; exact h.bk.cell 9
  generalize d.win.md = wm at *
  generalize d.win.sz = ws at *
  generalize d.win.bs = wb at *
  clear h
  go_enter Tryz.func105, Tryz.ntmps105
  go_upto_region 1 with (go_at_call 127; refine HN.out.mono ?_; rintro e w2 ⟨a, c, rfl, h2, f2, hnum⟩)
  clear c6 c7 c8 c9 HN
  have hs0 : Hid (IW Kp eb d p q.ag q.cv S C w2 0 w2 S) := ⟨⟨_, _, h2.out⟩, Fr.refl _ _ _, by rw [List.drop_zero]; rfl, by omega⟩
  clear h2
  go_loopw [11] (fun v wr => ∃ (i : Nat) (Si : List UInt8), v = .int .i64 (i : Int) ∧ i ≤ n ∧ Hid (IW Kp eb d p q.ag q.cv S C w2 i wr Si)) (fun v _ => n - (intOf v).toNat)
  case atStart => exact ⟨0, S, rfl, Nat.zero_le _, hs0⟩
  case round =>
    obtain ⟨i, Si, rfl, hi, hw⟩ := hrel
    by_cases hlt : i < n
    · have hil : i < d.win.l.length := by rw [hn.out]; exact hlt
      obtain ⟨g, o, rfl, hc⟩ := hnum.out i hlt
      have k1 : wr.cell? ⟨g, o + i, none⟩ = some (.int .i64 (Wn.num d.win i)) := hc wr hw.out.fr
      obtain ⟨s3, sb3, h3⟩ := hw.out.es
      have HT := Rg.hid (HS.out w2 wr Si i hil hw.out)
      obtain ⟨b1, o1, hb1, _, _, y1⟩ := SRow.cell (h3.win.e) hil
      have c9 : wr.cell? ⟨eb, 9, none⟩ = some (.slice (some ⟨b1, o1, none⟩) n p.wc) := by rw [← hb1, ← hn.out]; exact h3.bk.cell 9
      generalize d.win.l[i] = D at *
      generalize Wn.num d.win i = N at *
      have iz0 : (0 : Int) ≤ (i : Int) := by omega
      have iz1 : (i : Int) < (n : Int) := by omega
      clear hc h3 hb1 HS HP hnum hs0 hil hw
      go_wp2_with (go_at_call 94; refine HT.out.mono ?_; rintro e w3 ⟨rfl, S3, hs3⟩)
      go_roundw
      case rel => exact ⟨i + 1, S3, by go_num, by omega, hs3⟩
      case measure => simp [intOf]; omega
    · have hie : i = n := by omega
      subst hie
      have hp := HP.out w2 wr Si f2.out hw.out
      go_wp2
      go_end0
      exact hp
theorem Wn.inums_get (X : Wn.W) {i : Nat} (h : i < ((List.range X.l.length).map (Wn.num X)).length) : ((List.range X.l.length).map (Wn.num X))[i] = Wn.num X i := by simp
theorem isayWindow_any {Kp : Nat → Prop} {W : World} {eb : Nat} {d : Gp.Dr} {p : Pl} {q : Qv} {S : List UInt8} {C : List Gp.Pc} (h : IAt Kp W eb d p q S C) (hb : Ip.base d) (hr : Ip.runs d) (hlen : S.length + 80000 ≤ 140737488355328) :
    Calls Tryz.prog 105 #[.pointer (some ⟨eb, 0, none⟩)] W fun e w' => IPostP Kp eb W d p q.ag q.cv (S ++ Ip.all d) C e w' := by
  have hrt := Ip.runs_rt hb hr
  have hrm := hb.rm
  have hws := hr.ws
  have hln := hr.ln
  have hmd := hr.md
  have hz := hb.sz
  have n7 : d.win.l.length ≤ 16 := by omega
  have hl : ((List.range d.win.l.length).map (Wn.num d.win)).length = d.win.l.length := by simp
  refine isayWindow_go h _ d.win.l.length rfl n7 ?_ ?_ ?_
  · have HR : RightsAt 122 d.win.md d.win.sz d.win.bs p.w d.win.l.length p.wc true := fun W => by rw [← hrt]; exact isRight_any d.win p.w p.wc W
    refine (nums_rightT d.win.md d.win.sz d.win.bs p.w d.win.l.length p.wc (by omega) ((List.range d.win.l.length).map (Wn.num d.win)) hl W HR (fun i hi W => ?_)).mono fun e w' ⟨a, c, h1, h2, h3, h4⟩ => ⟨a, c, h1, h.below h3, Fr.of h3 (Nat.le_of_lt h.bk.lt), fun i hi => ?_⟩
    · rw [Wn.inums_get d.win hi]
      exact numberAt_any d.win p.w p.wc i hrt (by rw [hl] at hi; omega) W
    · obtain ⟨g, o, rfl, hg, hc⟩ := NRow.cell h2.out (i := i) (by rw [hl]; exact hi)
      refine ⟨g, o, rfl, fun W2 f => ?_⟩
      obtain ⟨cs, fz, hT⟩ := h4.out g o rfl
      rw [Wn.inums_get] at hc
      rw [← hc]
      refine World.cell?_of_block (a := ⟨g, o + i, none⟩) ?_
      show W2.heap[g]? = w'.heap[g]?
      rw [hT]
      refine f.oth g _ hT (fun e => ?_) (fun c fz e => by cases e)
      have e2 := Option.some.inj e
      subst e2
      have k := (h.below h3).bk
      unfold Rg.Bk at k
      rw [hT] at k
      cases k
  · intro W1 W2 S1 i hi hw
    obtain ⟨s2, sb2, h2⟩ := hw.es
    have hn := Wn.num_lt hrt i
    have hs := hb.wi _ (List.getElem_mem hi)
    have hl2 := hw.len
    refine (isayText_any h2 hb (Wn.num d.win i) (by omega) d.win.l[i] hs (by omega)).mono fun e w' hp => ⟨hp.1, _, hp.2.1, hw.fr.trans hp.2.2, ?_, ?_⟩
    · rw [← hw.out, Ip.allFrom_step d hi, List.append_assoc]
    · have := ipacket_len (d := d) (n := Wn.num d.win i) hz.2 hs
      rw [List.length_append]
      omega
  · intro W1 W2 S2 f hw
    have e := hw.out
    rw [List.drop_length] at e
    have e2 : S2 = S ++ Ip.all d := by rw [← e]; show S2 = S2 ++ []; rw [List.append_nil]
    exact ⟨rfl, by rw [← e2]; exact hw.es, f.trans hw.fr⟩
end Go.Proofs.YtlclfkogbfigbaaGreat

namespace Go.Proofs.YtlclfkogbfigbaaGreat
open Go.RowKit
theorem IAt.drewN {Kp : Nat → Prop} {W : World} {eb : Nat} {d : Gp.Dr} {p : Pl} {q : Qv} {S : List UInt8} {C : List Gp.Pc} (h : IAt Kp W eb d p q S C) (n : Nat) : IAt Kp (W.drewN n) eb d p q S C := h.below (Rg.drewN (Below.refl _ _) n)
/-- what tickRunning comes to -/
def Ip.ticked (d : Gp.Dr) : Gp.Dr × List UInt8 :=
  if d.win.l = [] then ({ d with step := -1 }, [])
  else if d.step ≠ d.win.bs then ({ d with step := d.win.bs }, [])
  else if 12 < d.tries + 1 then ({ d with tries := d.tries + 1, phase := 5 }, []) else ({ d with tries := d.tries + 1 }, Ip.all { d with tries := d.tries + 1 })
set_option maxHeartbeats 1000000 in
set_option maxRecDepth 100000 in
theorem itickRunning_empty (eb : Nat) (a : Option Addr) (c : Nat) (st : Int) (W : World) (c9 : W.cell? ⟨eb, 9, none⟩ = some (.slice a 0 c)) (c3 : W.cell? ⟨eb, 3, none⟩ = some (.int .i64 st)) (fz : ∀ i, W.frozen? ⟨eb, i, none⟩ = false) :
    Calls Tryz.prog 75 #[.pointer (some ⟨eb, 0, none⟩)] W fun e w' => e = .returned (.tuple #[]) ∧ w' = W.setCell ⟨eb, 3, none⟩ (.int .i64 (-1)) := by
  go_enter Tryz.func75, Tryz.ntmps75
  go_wp2
  go_end0
  exact ⟨rfl, rfl⟩
set_option maxHeartbeats 1000000 in
set_option maxRecDepth 100000 in
theorem itickRunning_first {Kp : Nat → Prop} {W : World} {eb : Nat} {d : Gp.Dr} {p : Pl} {q : Qv} {S : List UInt8} {C : List Gp.Pc} (h : IAt Kp W eb d p q S C) (n : Nat) (hn : d.win.l.length = n) (h0 : (n == 0) = false) (h1 : (d.step != d.win.bs) = true) :
    Calls Tryz.prog 75 #[.pointer (some ⟨eb, 0, none⟩)] W fun e w' => IPost Kp eb W { d with step := d.win.bs } S C e w' := by
  have c9 : W.cell? ⟨eb, 9, none⟩ = some (.slice p.w n p.wc) := by rw [← hn]; exact h.bk.cell 9
  have c3 : W.cell? ⟨eb, 3, none⟩ = some (.int .i64 d.step) := h.bk.cell 3
  have c8 : W.cell? ⟨eb, 8, none⟩ = some (.int .i64 d.win.bs) := h.bk.cell 8
  have h0' : ((n : Int) == 0) = false := by
    have : ¬ n = 0 := by simpa using h0
    simp; omega
  go_enter Tryz.func75, Tryz.ntmps75
  go_wp2
  go_quiet (fail)
  have h2 := Rg.hid (h.drewN nq)
  have f2 : Hid (Below eb W (W.drewN nq)) := Rg.drewN (Below.refl _ _) nq
  clear c9 c3 c8 h h0 h0'
  generalize World.drewN _ _ = w2 at *
  have c3 : w2.cell? ⟨eb, 3, none⟩ = some (.int .i64 d.step) := h2.out.bk.cell 3
  have c8 : w2.cell? ⟨eb, 8, none⟩ = some (.int .i64 d.win.bs) := h2.out.bk.cell 8
  have fz := h2.out.bk.thaw
  go_wp2
  go_end0
  exact ⟨rfl, ⟨p, q, h2.out.upd 3 (.int .i64 d.win.bs) { d with step := d.win.bs } rfl rfl rfl rfl rfl⟩, f2.out.trans (below_set eb _ _)⟩
set_option maxHeartbeats 1000000 in
set_option maxRecDepth 100000 in
theorem itickRunning_again {Kp : Nat → Prop} {W : World} {eb : Nat} {d : Gp.Dr} {p : Pl} {q : Qv} {S : List UInt8} {C : List Gp.Pc} (h : IAt Kp W eb d p q S C) (n : Nat) (hn : d.win.l.length = n) (h0 : (n == 0) = false) (h1 : d.step = d.win.bs) (d2 : Gp.Dr) (bT : Bool) (Post : Ending → World → Prop)
    (HM : Hid (∀ W1, IAt Kp W1 eb d p q S C → Calls Tryz.prog 74 #[.pointer (some ⟨eb, 0, none⟩)] W1 fun e w' => e = .returned (.bool bT) ∧ Hid (IS Kp w' eb d2 S C) ∧ Hid (Below eb W1 w')))
    (HS : Hid (bT = true → ∀ W1 p1 q1, IAt Kp W1 eb d2 p1 q1 S C → Below eb W W1 → Calls Tryz.prog 105 #[.pointer (some ⟨eb, 0, none⟩)] W1 fun e w' => e = .returned (.tuple #[]) ∧ Post (.returned (.tuple #[])) w'))
    (HP : Hid (bT = false → ∀ W1, IS Kp W1 eb d2 S C → Below eb W W1 → Post (.returned (.tuple #[])) W1)) :
    Calls Tryz.prog 75 #[.pointer (some ⟨eb, 0, none⟩)] W Post := by
  have c9 : W.cell? ⟨eb, 9, none⟩ = some (.slice p.w n p.wc) := by rw [← hn]; exact h.bk.cell 9
  have c3 : W.cell? ⟨eb, 3, none⟩ = some (.int .i64 d.win.bs) := by rw [← h1]; exact h.bk.cell 3
  have c8 : W.cell? ⟨eb, 8, none⟩ = some (.int .i64 d.win.bs) := h.bk.cell 8
  have h0' : ((n : Int) == 0) = false := by
    have : ¬ n = 0 := by simpa using h0
    simp; omega
  have hne : (d.win.bs != d.win.bs) = false := by simp
  go_enter Tryz.func75, Tryz.ntmps75
  go_wp2
  go_quiet (fail)
  have h2 := Rg.hid (h.drewN nq)
  have f2 : Hid (Below eb W (W.drewN nq)) := Rg.drewN (Below.refl _ _) nq
  clear c9 c3 c8 h h0 h0' hn
  generalize World.drewN _ _ = w2 at *
  have HM1 := Rg.hid (HM.out _ h2.out)
  clear HM h2
  cases bT with
  | true =>
    go_upto_region 5 with (go_at_call 74; refine HM1.out.mono ?_; rintro e w3 ⟨rfl, hs3, fr3⟩)
    obtain ⟨p3, q3, h3⟩ := hs3.out
    have HS1 := Rg.hid (HS.out (by trivial) w3 p3 q3 h3 (f2.out.trans fr3.out))
    clear HS HP HM1 hs3 fr3 h3
    go_wp2_with (go_at_call 105; refine HS1.out.mono ?_; rintro e w4 ⟨rfl, hp⟩)
    go_end0
    exact hp
  | false =>
    go_wp2_with (go_at_call 74; refine HM1.out.mono ?_; rintro e w3 ⟨rfl, hs3, fr3⟩)
    go_end0
    exact HP.out (by trivial) w3 hs3.out (f2.out.trans fr3.out)
theorem IPost.go {Kp : Nat → Prop} {eb : Nat} {W W1 : World} {d : Gp.Dr} {p : Pl} {ag : Option Nat} {cv : Value} {S : List UInt8} {C : List Gp.Pc} {F : Nat} {args : Array Value} (f : Below eb W W1) (h : Calls Tryz.prog F args W1 fun e w' => IPostP Kp eb W1 d p ag cv S C e w') : Calls Tryz.prog F args W1 fun e w' => e = .returned (.tuple #[]) ∧ IPost Kp eb W d S C (.returned (.tuple #[])) w' := h.mono fun _ _ hp => ⟨hp.1, rfl, hp.is.2.1, f.trans hp.is.2.2⟩
theorem itickRunning_any {Kp : Nat → Prop} {W : World} {eb : Nat} {d : Gp.Dr} {p : Pl} {q : Qv} {S : List UInt8} {C : List Gp.Pc} (h : IAt Kp W eb d p q S C) (hb : Ip.base d) (hr : Ip.runs d) (hlen : S.length + 80000 ≤ 140737488355328) :
    Calls Tryz.prog 75 #[.pointer (some ⟨eb, 0, none⟩)] W fun e w' => IPost Kp eb W (Ip.ticked d).1 (S ++ (Ip.ticked d).2) C e w' := by
  have htr := hb.tr
  unfold Ip.ticked
  by_cases hw : d.win.l = []
  · rw [if_pos hw]
    have c9 : W.cell? ⟨eb, 9, none⟩ = some (.slice p.w 0 p.wc) := by
      have := h.bk.cell 9
      have e : (IC d p q)[9]? = some (.slice p.w d.win.l.length p.wc) := rfl
      rw [e, hw] at this
      exact this
    refine (itickRunning_empty eb p.w p.wc d.step W c9 (h.bk.cell 3) h.bk.thaw).mono ?_
    rintro e w' ⟨rfl, rfl⟩
    dsimp only
    rw [List.append_nil]
    exact ⟨rfl, ⟨p, q, h.upd 3 (.int .i64 (-1)) { d with step := -1 } rfl rfl rfl rfl rfl⟩, below_set eb _ _⟩
  rw [if_neg hw]
  have h0 : (d.win.l.length == 0) = false := by simp [hw]
  by_cases hs : d.step ≠ d.win.bs
  · rw [if_pos hs]
    dsimp only
    rw [List.append_nil]
    exact itickRunning_first h _ rfl h0 (by simp [hs])
  rw [if_neg hs]
  have hs2 : d.step = d.win.bs := Classical.byContradiction hs
  by_cases ht : 12 < d.tries + 1
  · rw [if_pos ht]
    dsimp only
    rw [List.append_nil]
    exact itickRunning_again h _ rfl h0 hs2 { d with tries := d.tries + 1, phase := 5 } false _ (fun W1 h1 => (imayTry_n h1 htr ht).mono fun e w' ⟨a, b, c⟩ => ⟨a, ⟨p, q, b⟩, c⟩) (fun hx => by cases hx) (fun _ W1 h1 f1 => ⟨rfl, h1, f1⟩)
  · rw [if_neg ht]
    exact itickRunning_again h _ rfl h0 hs2 { d with tries := d.tries + 1 } true _ (fun W1 h1 => (imayTry_y h1 htr ht).mono fun e w' ⟨a, b, c⟩ => ⟨a, ⟨p, q, b⟩, c⟩) (fun _ W1 p1 q1 h1 f1 => IPost.go f1 (isayWindow_any h1 ⟨hb.lt, hb.sz, hb.rm, hb.wn, hb.at_, hb.wt, by show 0 ≤ d.tries + 1 ∧ d.tries + 1 ≤ 13; omega, hb.qu, hb.wi, hb.ah⟩ ⟨hr.st, hr.md, hr.ws, hr.bs, hr.ln⟩ hlen)) (fun hx => by cases hx)
set_option maxHeartbeats 2000000 in
set_option maxRecDepth 100000 in
theorem itick_kept {Kp : Nat → Prop} {W : World} {eb : Nat} {d : Gp.Dr} {p : Pl} {q : Qv} {S : List UInt8} {C : List Gp.Pc} (h : IAt Kp W eb d p q S C) (d1 d2 : Gp.Dr) (bT : Bool) (hp1 : d1.phase = d.phase) (Post : Ending → World → Prop)
    (HM : Hid (d.phase = 1 ∨ d.phase = 3 → ∀ W1 p1 q1, IAt Kp W1 eb d1 p1 q1 S C → Calls Tryz.prog 74 #[.pointer (some ⟨eb, 0, none⟩)] W1 fun e w' => e = .returned (.bool bT) ∧ Hid (IS Kp w' eb d2 S C) ∧ Hid (Below eb W1 w')))
    (HO : Hid (d.phase = 1 → bT = true → ∀ W1 p1 q1, IAt Kp W1 eb d2 p1 q1 S C → Below eb W W1 → Calls Tryz.prog 26 #[.pointer (some ⟨eb, 0, none⟩)] W1 fun e w' => e = .returned (.tuple #[]) ∧ Post (.returned (.tuple #[])) w'))
    (HF : Hid (d.phase = 1 → bT = false → ∀ W1, IS Kp W1 eb d2 S C → Below eb W W1 → Post (.returned (.tuple #[])) W1))
    (HC : Hid (d.phase = 3 → bT = true → ∀ W1 p1 q1, IAt Kp W1 eb d2 p1 q1 S C → Below eb W W1 → Calls Tryz.prog 47 #[.pointer (some ⟨eb, 0, none⟩)] W1 fun e w' => e = .returned (.tuple #[]) ∧ Post (.returned (.tuple #[])) w'))
    (HX : Hid (d.phase = 3 → bT = false → ∀ W1, IS Kp W1 eb { d2 with phase := 4, step := 0 } S C → Below eb W W1 → Post (.returned (.tuple #[])) W1))
    (HR : Hid (d.phase = 2 → ∀ W1 p1 q1, IAt Kp W1 eb d1 p1 q1 S C → Below eb W W1 → Calls Tryz.prog 75 #[.pointer (some ⟨eb, 0, none⟩)] W1 fun e w' => e = .returned (.tuple #[]) ∧ Post (.returned (.tuple #[])) w'))
    (HN : Hid (d.phase = 4 ∨ d.phase = 5 → ∀ W1, IS Kp W1 eb d1 S C → Below eb W W1 → Post (.returned (.tuple #[])) W1)) (h15 : 1 ≤ d.phase ∧ d.phase ≤ 5) (A : Int) (ha : bits .and .i64 d.wait 2 = A) (ha0 : (A == 0) = false) (hd1 : d1 = { d with wait := 0 }) :
    Calls Tryz.prog 39 #[.pointer (some ⟨eb, 0, none⟩)] W Post := by
  have c15 : W.cell? ⟨eb, 15, none⟩ = some (.int .i64 d.wait) := h.bk.cell 15
  have fz := h.bk.thaw
  have h3 : Hid (IAt Kp (W.setCell ⟨eb, 15, none⟩ (.int .i64 0)) eb d1 p q S C) := by rw [hd1]; exact h.upd 15 (.int .i64 0) { d with wait := 0 } rfl rfl rfl rfl rfl
  have f3 : Hid (Below eb W (W.setCell ⟨eb, 15, none⟩ (.int .i64 0))) := below_set eb _ _
  obtain ⟨p3, hp3⟩ : ∃ p3, p3 = p := ⟨_, rfl⟩
  obtain ⟨q3, hq3⟩ : ∃ q3, q3 = q := ⟨_, rfl⟩
  rw [← hp3, ← hq3] at h3
  clear h hd1 hp3 hq3
  go_enter Tryz.func39, Tryz.ntmps39
  go_upto_region 3 with fail
  generalize World.setCell _ _ _ = w3 at *
  clear c15 fz ha ha0
  have c1 : w3.cell? ⟨eb, 1, none⟩ = some (.int .i64 d.phase) := by rw [← hp1]; exact h3.out.bk.cell 1
  obtain ⟨ph, hph⟩ : ∃ ph, d.phase = ph := ⟨_, rfl⟩
  rw [hph] at c1 HM HO HF HC HX HR HN h15
  clear hp1 hph
  obtain rfl | rfl | rfl | rfl | rfl : ph = 1 ∨ ph = 2 ∨ ph = 3 ∨ ph = 4 ∨ ph = 5 := by omega
  · have HM1 := Rg.hid (HM.out (.inl rfl) w3 p3 q3 h3.out)
    clear HM HC HX HR HN h3
    cases bT with
    | true =>
      go_upto_region 6 with (go_at_call 74; refine HM1.out.mono ?_; rintro e w4 ⟨rfl, hs4, fr4⟩)
      obtain ⟨p4, q4, h4⟩ := hs4.out
      have HO1 := Rg.hid (HO.out (by trivial) (by trivial) w4 p4 q4 h4 (f3.out.trans fr4.out))
      clear HM1 HO HF hs4 fr4 h4 c1
      go_wp2_with (go_at_call 26; refine HO1.out.mono ?_; rintro e w5 ⟨rfl, hp⟩)
      go_end0
      exact hp
    | false =>
      go_wp2_with (go_at_call 74; refine HM1.out.mono ?_; rintro e w4 ⟨rfl, hs4, fr4⟩)
      go_end0
      exact HF.out (by trivial) (by trivial) w4 hs4.out (f3.out.trans fr4.out)
  · have HR1 := Rg.hid (HR.out rfl w3 p3 q3 h3.out f3.out)
    clear HM HO HF HC HX HR HN h3
    go_wp2_with (go_at_call 75; refine HR1.out.mono ?_; rintro e w5 ⟨rfl, hp⟩)
    go_end0
    exact hp
  · have HM1 := Rg.hid (HM.out (.inr rfl) w3 p3 q3 h3.out)
    clear HM HO HF HR HN h3
    cases bT with
    | true =>
      go_upto_region 9 with (go_at_call 74; refine HM1.out.mono ?_; rintro e w4 ⟨rfl, hs4, fr4⟩)
      obtain ⟨p4, q4, h4⟩ := hs4.out
      have HC1 := Rg.hid (HC.out (by trivial) (by trivial) w4 p4 q4 h4 (f3.out.trans fr4.out))
      clear HM1 HC HX hs4 fr4 h4 c1
      go_wp2_with (go_at_call 47; refine HC1.out.mono ?_; rintro e w5 ⟨rfl, hp⟩)
      go_end0
      exact hp
    | false =>
      go_upto_region 10 with (go_at_call 74; refine HM1.out.mono ?_; rintro e w4 ⟨rfl, hs4, fr4⟩)
      obtain ⟨p4, q4, h4⟩ := hs4.out
      have d1' : w4.cell? ⟨eb, 1, none⟩ = some (.int .i64 d2.phase) := h4.bk.cell 1
      have d3' : w4.cell? ⟨eb, 3, none⟩ = some (.int .i64 d2.step) := h4.bk.cell 3
      have fz := h4.bk.thaw
      have h5 := Rg.hid ((h4.upd 1 (.int .i64 4) { d2 with phase := 4 } rfl rfl rfl rfl rfl).upd 3 (.int .i64 0) { d2 with phase := 4, step := 0 } rfl rfl rfl rfl rfl)
      have f5 := Rg.hid (((f3.out.trans fr4.out).trans (below_set eb 1 (.int .i64 4))).trans (below_set eb 3 (.int .i64 0)))
      clear hs4 fr4 h4 HM1 HC c1
      go_wp2
      generalize World.setCell _ _ _ = w5 at *
      go_end0
      exact HX.out (by trivial) (by trivial) w5 ⟨_, _, h5.out⟩ f5.out
  · have hp := HN.out (.inl rfl) w3 ⟨_, _, h3.out⟩ f3.out
    clear HM HO HF HC HX HR HN h3
    go_wp2
    go_end0
    exact hp
  · have hp := HN.out (.inr rfl) w3 ⟨_, _, h3.out⟩ f3.out
    clear HM HO HF HC HX HR HN h3
    go_wp2
    go_end0
    exact hp
set_option maxHeartbeats 2000000 in
set_option maxRecDepth 100000 in
theorem itick_dropped {Kp : Nat → Prop} {W : World} {eb : Nat} {d : Gp.Dr} {p : Pl} {q : Qv} {S : List UInt8} {C : List Gp.Pc} (h : IAt Kp W eb d p q S C) (d1 d2 : Gp.Dr) (bT : Bool) (hp1 : d1.phase = d.phase) (Post : Ending → World → Prop)
    (HM : Hid (d.phase = 1 ∨ d.phase = 3 → ∀ W1 p1 q1, IAt Kp W1 eb d1 p1 q1 S C → Calls Tryz.prog 74 #[.pointer (some ⟨eb, 0, none⟩)] W1 fun e w' => e = .returned (.bool bT) ∧ Hid (IS Kp w' eb d2 S C) ∧ Hid (Below eb W1 w')))
    (HO : Hid (d.phase = 1 → bT = true → ∀ W1 p1 q1, IAt Kp W1 eb d2 p1 q1 S C → Below eb W W1 → Calls Tryz.prog 26 #[.pointer (some ⟨eb, 0, none⟩)] W1 fun e w' => e = .returned (.tuple #[]) ∧ Post (.returned (.tuple #[])) w'))
    (HF : Hid (d.phase = 1 → bT = false → ∀ W1, IS Kp W1 eb d2 S C → Below eb W W1 → Post (.returned (.tuple #[])) W1))
    (HC : Hid (d.phase = 3 → bT = true → ∀ W1 p1 q1, IAt Kp W1 eb d2 p1 q1 S C → Below eb W W1 → Calls Tryz.prog 47 #[.pointer (some ⟨eb, 0, none⟩)] W1 fun e w' => e = .returned (.tuple #[]) ∧ Post (.returned (.tuple #[])) w'))
    (HX : Hid (d.phase = 3 → bT = false → ∀ W1, IS Kp W1 eb { d2 with phase := 4, step := 0 } S C → Below eb W W1 → Post (.returned (.tuple #[])) W1))
    (HR : Hid (d.phase = 2 → ∀ W1 p1 q1, IAt Kp W1 eb d1 p1 q1 S C → Below eb W W1 → Calls Tryz.prog 75 #[.pointer (some ⟨eb, 0, none⟩)] W1 fun e w' => e = .returned (.tuple #[]) ∧ Post (.returned (.tuple #[])) w'))
    (HN : Hid (d.phase = 4 ∨ d.phase = 5 → ∀ W1, IS Kp W1 eb d1 S C → Below eb W W1 → Post (.returned (.tuple #[])) W1)) (h15 : 1 ≤ d.phase ∧ d.phase ≤ 5) (A : Int) (ha : bits .and .i64 d.wait 2 = A) (ha0 : (A == 0) = true) (dc : Gp.Dr) (hd1 : d1 = { dc with wait := 0 }) (BL : Nat) (hBL : (⟨d.buf.toArray⟩ : ByteArray).size = BL)
    (HT : Hid (Calls Tryz.prog 59 #[.pointer (some ⟨eb, 0, none⟩), .int .i64 (BL : Int)] W fun e w' => e = .returned (.tuple #[]) ∧ Hid (IS Kp w' eb dc S C) ∧ Hid (Below eb W w'))) :
    Calls Tryz.prog 39 #[.pointer (some ⟨eb, 0, none⟩)] W Post := by
  have c15 : W.cell? ⟨eb, 15, none⟩ = some (.int .i64 d.wait) := h.bk.cell 15
  have c12 : W.cell? ⟨eb, 12, none⟩ = some (.string ⟨d.buf.toArray⟩) := h.bk.cell 12
  clear h
  generalize (⟨d.buf.toArray⟩ : ByteArray) = B at *
  subst hBL
  go_enter Tryz.func39, Tryz.ntmps39
  go_upto_region 2 with (go_at_call 59; refine HT.out.mono ?_; rintro e w2 ⟨rfl, hs2, fr2⟩)
  obtain ⟨p3, q3, h2⟩ := hs2.out
  clear c15 c12 ha ha0 HT
  have c15 : w2.cell? ⟨eb, 15, none⟩ = some (.int .i64 dc.wait) := h2.bk.cell 15
  have fz := h2.bk.thaw
  have h3 : Hid (IAt Kp (w2.setCell ⟨eb, 15, none⟩ (.int .i64 0)) eb d1 p3 q3 S C) := by rw [hd1]; exact h2.upd 15 (.int .i64 0) { dc with wait := 0 } rfl rfl rfl rfl rfl
  have f3 : Hid (Below eb W (w2.setCell ⟨eb, 15, none⟩ (.int .i64 0))) := fr2.out.trans (below_set eb _ _)
  clear hs2 fr2 h2 hd1
  go_upto_region 3 with fail
  generalize World.setCell _ _ _ = w3 at *
  clear c15 fz
  have c1 : w3.cell? ⟨eb, 1, none⟩ = some (.int .i64 d.phase) := by rw [← hp1]; exact h3.out.bk.cell 1
  obtain ⟨ph, hph⟩ : ∃ ph, d.phase = ph := ⟨_, rfl⟩
  rw [hph] at c1 HM HO HF HC HX HR HN h15
  clear hp1 hph
  obtain rfl | rfl | rfl | rfl | rfl : ph = 1 ∨ ph = 2 ∨ ph = 3 ∨ ph = 4 ∨ ph = 5 := by omega
  · have HM1 := Rg.hid (HM.out (.inl rfl) w3 p3 q3 h3.out)
    clear HM HC HX HR HN h3
    cases bT with
    | true =>
      go_upto_region 6 with (go_at_call 74; refine HM1.out.mono ?_; rintro e w4 ⟨rfl, hs4, fr4⟩)
      obtain ⟨p4, q4, h4⟩ := hs4.out
      have HO1 := Rg.hid (HO.out (by trivial) (by trivial) w4 p4 q4 h4 (f3.out.trans fr4.out))
      clear HM1 HO HF hs4 fr4 h4 c1
      go_wp2_with (go_at_call 26; refine HO1.out.mono ?_; rintro e w5 ⟨rfl, hp⟩)
      go_end0
      exact hp
    | false =>
      go_wp2_with (go_at_call 74; refine HM1.out.mono ?_; rintro e w4 ⟨rfl, hs4, fr4⟩)
      go_end0
      exact HF.out (by trivial) (by trivial) w4 hs4.out (f3.out.trans fr4.out)
  · have HR1 := Rg.hid (HR.out rfl w3 p3 q3 h3.out f3.out)
    clear HM HO HF HC HX HR HN h3
    go_wp2_with (go_at_call 75; refine HR1.out.mono ?_; rintro e w5 ⟨rfl, hp⟩)
    go_end0
    exact hp
  · have HM1 := Rg.hid (HM.out (.inr rfl) w3 p3 q3 h3.out)
    clear HM HO HF HR HN h3
    cases bT with
    | true =>
      go_upto_region 9 with (go_at_call 74; refine HM1.out.mono ?_; rintro e w4 ⟨rfl, hs4, fr4⟩)
      obtain ⟨p4, q4, h4⟩ := hs4.out
      have HC1 := Rg.hid (HC.out (by trivial) (by trivial) w4 p4 q4 h4 (f3.out.trans fr4.out))
      clear HM1 HC HX hs4 fr4 h4 c1
      go_wp2_with (go_at_call 47; refine HC1.out.mono ?_; rintro e w5 ⟨rfl, hp⟩)
      go_end0
      exact hp
    | false =>
      go_upto_region 10 with (go_at_call 74; refine HM1.out.mono ?_; rintro e w4 ⟨rfl, hs4, fr4⟩)
      obtain ⟨p4, q4, h4⟩ := hs4.out
      have d1' : w4.cell? ⟨eb, 1, none⟩ = some (.int .i64 d2.phase) := h4.bk.cell 1
      have d3' : w4.cell? ⟨eb, 3, none⟩ = some (.int .i64 d2.step) := h4.bk.cell 3
      have fz := h4.bk.thaw
      have h5 := Rg.hid ((h4.upd 1 (.int .i64 4) { d2 with phase := 4 } rfl rfl rfl rfl rfl).upd 3 (.int .i64 0) { d2 with phase := 4, step := 0 } rfl rfl rfl rfl rfl)
      have f5 := Rg.hid (((f3.out.trans fr4.out).trans (below_set eb 1 (.int .i64 4))).trans (below_set eb 3 (.int .i64 0)))
      clear hs4 fr4 h4 HM1 HC c1
      go_wp2
      generalize World.setCell _ _ _ = w5 at *
      go_end0
      exact HX.out (by trivial) (by trivial) w5 ⟨_, _, h5.out⟩ f5.out
  · have hp := HN.out (.inl rfl) w3 ⟨_, _, h3.out⟩ f3.out
    clear HM HO HF HC HX HR HN h3
    go_wp2
    go_end0
    exact hp
  · have hp := HN.out (.inr rfl) w3 ⟨_, _, h3.out⟩ f3.out
    clear HM HO HF HC HX HR HN h3
    go_wp2
    go_end0
    exact hp
end Go.Proofs.YtlclfkogbfigbaaGreat
