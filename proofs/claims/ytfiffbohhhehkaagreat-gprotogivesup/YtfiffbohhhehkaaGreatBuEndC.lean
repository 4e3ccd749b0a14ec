/-
  Walks of layer 15: takeOpening, takeClose. Walks of layer 15: all of the window is said. Walks of layer 15: takeClose, acknowledge, takeReject, takeData. Walks of layer 15: takeData.
-/
import Derived.Test.YtfiffbohhhehkaaGreatBuEndB
import Derived.Test.YtfiffbohhhehkaaGreatBuWinB
namespace Go.Proofs.YtfiffbohhhehkaaGreat
open Go.RowKit
namespace Gp
theorem four {x : Int} (h0 : 0 ≤ x) (h3 : x ≤ 3) : x = 0 ∨ x = 1 ∨ x = 2 ∨ x = 3 := by omega
theorem and1 {x : Int} (h0 : 0 ≤ x) (h3 : x ≤ 3) : bits .and .i64 x 1 = x % 2 := by rcases four h0 h3 with rfl | rfl | rfl | rfl <;> decide +kernel
theorem and2 {x : Int} (h0 : 0 ≤ x) (h3 : x ≤ 3) : bits .and .i64 x 2 = if 2 ≤ x then 2 else 0 := by rcases four h0 h3 with rfl | rfl | rfl | rfl <;> decide +kernel
theorem orb1 {x : Int} (h0 : 0 ≤ x) (h3 : x ≤ 3) : bits .or .i64 x 1 = or1 x := by rcases four h0 h3 with rfl | rfl | rfl | rfl <;> decide +kernel
theorem orb2 {x : Int} (h0 : 0 ≤ x) (h3 : x ≤ 3) : bits .or .i64 x 2 = or2 x := by rcases four h0 h3 with rfl | rfl | rfl | rfl <;> decide +kernel
end Gp
set_option maxHeartbeats 1000000 in
set_option maxRecDepth 100000 in
theorem takeOpening_ready (eb : Nat) (lo : Int) (W : World) (Post : Ending → World → Prop) (c1 : W.cell? ⟨eb, 1, none⟩ = some (.int .i64 2))
    (HS : Hid (Calls Tryz.prog 103 #[.pointer (some ⟨eb, 0, none⟩)] W fun e w' => e = .returned (.tuple #[]) ∧ Post (.returned (.tuple #[])) w')) :
    Calls Tryz.prog 79 #[.pointer (some ⟨eb, 0, none⟩), .int .i64 2, .int .i64 lo] W Post := by
  go_enter Tryz.func79, Tryz.ntmps79
  go_wp2_with (go_at_call 103; refine HS.out.mono ?_; rintro e w3 ⟨rfl, hp⟩)
  go_end0
  exact hp
set_option maxHeartbeats 1000000 in
set_option maxRecDepth 100000 in
theorem takeOpening_run (eb : Nat) (st lo : Int) (W : World) (c1 : W.cell? ⟨eb, 1, none⟩ = some (.int .i64 2)) (h : (st == 2) = false) :
    Calls Tryz.prog 79 #[.pointer (some ⟨eb, 0, none⟩), .int .i64 st, .int .i64 lo] W fun e w' => e = .returned (.tuple #[]) ∧ w' = W := by
  go_enter Tryz.func79, Tryz.ntmps79
  go_wp2
  go_end0
  exact ⟨rfl, rfl⟩
set_option maxHeartbeats 1000000 in
set_option maxRecDepth 100000 in
theorem takeOpening_over (eb : Nat) (ph st lo : Int) (W : World) (c1 : W.cell? ⟨eb, 1, none⟩ = some (.int .i64 ph)) (h2 : (ph == 2) = false) (h1 : (ph != 1) = true) :
    Calls Tryz.prog 79 #[.pointer (some ⟨eb, 0, none⟩), .int .i64 st, .int .i64 lo] W fun e w' => e = .returned (.tuple #[]) ∧ w' = W := by
  go_enter Tryz.func79, Tryz.ntmps79
  go_wp2
  go_end0
  exact ⟨rfl, rfl⟩
set_option maxHeartbeats 1000000 in
set_option maxRecDepth 100000 in
theorem takeOpening_agree (eb : Nat) (st lo : Int) (W : World) (Post : Ending → World → Prop) (c1 : W.cell? ⟨eb, 1, none⟩ = some (.int .i64 1)) (c3 : W.cell? ⟨eb, 3, none⟩ = some (.int .i64 st))
    (HS : Hid (Calls Tryz.prog 104 #[.pointer (some ⟨eb, 0, none⟩), .int .i64 lo] W fun e w' => e = .returned (.tuple #[]) ∧ Post (.returned (.tuple #[])) w')) :
    Calls Tryz.prog 79 #[.pointer (some ⟨eb, 0, none⟩), .int .i64 st, .int .i64 lo] W Post := by
  have e : (st == st) = true := by simp
  go_enter Tryz.func79, Tryz.ntmps79
  go_wp2_with (go_at_call 104; refine HS.out.mono ?_; rintro e w3 ⟨rfl, hp⟩)
  go_end0
  exact hp
set_option maxHeartbeats 1000000 in
set_option maxRecDepth 100000 in
theorem takeOpening_far (eb : Nat) (st sp sq lo : Int) (W : World) (c1 : W.cell? ⟨eb, 1, none⟩ = some (.int .i64 1)) (c3 : W.cell? ⟨eb, 3, none⟩ = some (.int .i64 sp)) (h1 : (st == sp) = false) (h2 : wrap64 (sp - 1) = sq) (h3 : (st == sq) = false) :
    Calls Tryz.prog 79 #[.pointer (some ⟨eb, 0, none⟩), .int .i64 st, .int .i64 lo] W fun e w' => e = .returned (.tuple #[]) ∧ w' = W := by
  go_enter Tryz.func79, Tryz.ntmps79
  go_wp2
  go_end0
  exact ⟨rfl, rfl⟩
set_option maxHeartbeats 1000000 in
set_option maxRecDepth 100000 in
theorem takeOpening_said (eb : Nat) (st sp lo wt A : Int) (W : World) (c1 : W.cell? ⟨eb, 1, none⟩ = some (.int .i64 1)) (c3 : W.cell? ⟨eb, 3, none⟩ = some (.int .i64 sp)) (c15 : W.cell? ⟨eb, 15, none⟩ = some (.int .i64 wt)) (h1 : (st == sp) = false) (h2 : wrap64 (sp - 1) = st) (h4 : bits .and .i64 wt 1 = A) (h5 : (A == 0) = false) :
    Calls Tryz.prog 79 #[.pointer (some ⟨eb, 0, none⟩), .int .i64 st, .int .i64 lo] W fun e w' => e = .returned (.tuple #[]) ∧ w' = W := by
  have e : (st == st) = true := by simp
  go_enter Tryz.func79, Tryz.ntmps79
  go_wp2
  go_end0
  exact ⟨rfl, rfl⟩
set_option maxHeartbeats 1000000 in
set_option maxRecDepth 100000 in
theorem takeOpening_again {Kp : Nat → Prop} {base eb : Nat} {W : World} {d : Gp.Dr} {p : Pl} {q : Bu} {S C : List UInt8} (h : EAt Kp base W eb d p q S C) (st lo A O : Int) (Post : Ending → World → Prop) (hph : d.phase = 1) (h1 : (st == d.step) = false) (h2 : wrap64 (d.step - 1) = st) (h4 : bits .and .i64 d.wait 1 = A) (h5 : (A == 0) = true) (h6 : bits .or .i64 d.wait 1 = O)
    (HS : Hid (∀ W1, EAt Kp base W1 eb { d with wait := O } p q S C → Fr base eb W W1 → Calls Tryz.prog 26 #[.pointer (some ⟨eb, 0, none⟩), .int .i64 st] W1 fun e w' => e = .returned (.tuple #[]) ∧ Post (.returned (.tuple #[])) w')) :
    Calls Tryz.prog 79 #[.pointer (some ⟨eb, 0, none⟩), .int .i64 st, .int .i64 lo] W Post := by
  have e : (st == st) = true := by simp
  have c1 : W.cell? ⟨eb, 1, none⟩ = some (.int .i64 1) := by rw [← hph]; exact h.bk.cell 1
  have c3 : W.cell? ⟨eb, 3, none⟩ = some (.int .i64 d.step) := h.bk.cell 3
  have c15 : W.cell? ⟨eb, 15, none⟩ = some (.int .i64 d.wait) := h.bk.cell 15
  have fz := h.bk.thaw
  have h7 := Rg.hid (h.upd 15 (.int .i64 O) { d with wait := O } rfl rfl rfl rfl rfl)
  have f7 : Hid (Fr base eb W (W.setCell ⟨eb, 15, none⟩ (.int .i64 O))) := Fr.set h.new _ _
  clear h
  generalize d.step = sp at *
  generalize d.wait = wt at *
  go_enter Tryz.func79, Tryz.ntmps79
  go_upto_region 7 with fail
  generalize World.setCell _ _ _ = w1 at *
  clear c1 c3 c15 fz
  go_wp2_with (go_at_call 26; refine (HS.out _ h7.out f7.out).mono ?_; rintro e w3 ⟨rfl, hp⟩)
  go_end0
  exact hp
theorem EPost.id {Kp : Nat → Prop} {base eb : Nat} {W : World} {d : Gp.Dr} {p : Pl} {q : Bu} {S C : List UInt8} {F : Nat} {args : Array Value} (h : EAt Kp base W eb d p q S C) (k : Calls Tryz.prog F args W fun e w' => e = .returned (.tuple #[]) ∧ w' = W) : Calls Tryz.prog F args W fun e w' => EPost Kp base eb W d (S ++ []) C e w' := k.mono fun _ _ ⟨h1, h2⟩ => by
  subst h2
  rw [List.append_nil]
  exact ⟨h1, ⟨p, q, h⟩, Fr.refl _ _ _⟩
theorem begins_agreed {d : Gp.Dr} {low : Int} (hp : d.phase = 1) (s0 : 0 ≤ d.step) (s2 : d.step ≤ 2) : Gp.begins d d.step low = Gp.agreed d low := by
  unfold Gp.begins Gp.agreed
  rw [if_neg (by omega), if_neg (by omega), if_neg (by omega)]
  by_cases h1 : d.step = 1
  · rw [if_pos h1, if_pos h1]
    simp only [h1, Int.reduceAdd]
  · rw [if_neg h1, if_neg h1]
    by_cases hl : low < 1
    · rw [if_pos hl, if_pos hl]
    · rw [if_neg hl, if_neg hl]
      by_cases h2 : d.step = 2
      · rw [if_pos h2]
        dsimp only
        rw [if_pos (by omega)]
        rfl
      · rw [if_neg h2]
        have h0 : d.step = 0 := by omega
        dsimp only
        rw [if_neg (by omega)]
        simp only [h0, Int.zero_add]
theorem takeOpening_any {Kp : Nat → Prop} {base eb : Nat} {W : World} {d : Gp.Dr} {p : Pl} {q : Bu} {S C : List UInt8} (h : EAt Kp base W eb d p q S C) (hr : Gp.right d) (st low : Int) (s0 : 0 ≤ st) (s2 : st ≤ 2) (l0 : 0 ≤ low) (l7 : low ≤ 7) (hlen : S.length + 6 ≤ 140737488355328) :
    Calls Tryz.prog 79 #[.pointer (some ⟨eb, 0, none⟩), .int .i64 st, .int .i64 low] W fun e w' => EPost Kp base eb W (Gp.begins d st low).1 (S ++ (Gp.begins d st low).2) C e w' := by
  obtain ⟨⟨b1, b2, b3, b4, b5, b6, b7, b8, b9, b10, b11, b12, b13, b14, b15⟩, hp⟩ := hr
  by_cases p2 : d.phase = 2
  · have e : Gp.begins d st low = (d, if st = 2 then Gp.ready d else []) := by unfold Gp.begins; rw [if_pos p2]
    rw [e]
    have c1 : W.cell? ⟨eb, 1, none⟩ = some (.int .i64 2) := by rw [← p2]; exact h.bk.cell 1
    by_cases q2 : st = 2
    · subst q2
      dsimp only
      rw [if_pos rfl]
      exact takeOpening_ready eb low W _ c1 (EPost.split (sayReady_any h b6 b7 hlen))
    · dsimp only
      rw [if_neg q2]
      exact EPost.id h (takeOpening_run eb st low W c1 (by simp [q2]))
  by_cases p1 : d.phase = 1
  · have hs : 0 ≤ d.step ∧ d.step ≤ 2 := by
      rcases hp with ⟨_, h1, h2, _⟩ | ⟨h, _⟩ | h | h | h
      · exact ⟨h1, h2⟩
      all_goals omega
    have c1 : W.cell? ⟨eb, 1, none⟩ = some (.int .i64 1) := by rw [← p1]; exact h.bk.cell 1
    by_cases q1 : st = d.step
    · subst q1
      rw [begins_agreed p1 hs.1 hs.2]
      exact takeOpening_agree eb d.step low W _ c1 (h.bk.cell 3) (EPost.split (agree_any h low l0 l7 b2 b4 b5 hs.1 hs.2 hlen))
    · have hq1 : (st == d.step) = false := by simp [q1]
      by_cases q2 : st = d.step - 1
      · have hw : wrap64 (d.step - 1) = st := by unfold wrap64; omega
        have ha := Gp.and1 b10 b11
        by_cases q3 : d.wait % 2 = 1
        · have e : Gp.begins d st low = (d, []) := by
            unfold Gp.begins
            rw [if_neg p2, if_neg (by omega), if_pos (by omega), if_pos (.inr q3)]
          rw [e]
          exact EPost.id h (takeOpening_said eb st d.step low d.wait _ W c1 (h.bk.cell 3) (h.bk.cell 15) hq1 hw ha (by rw [q3]; decide))
        · have e : Gp.begins d st low = ({ d with wait := Gp.or1 d.wait }, Gp.opening { d with wait := Gp.or1 d.wait } st) := by
            unfold Gp.begins
            rw [if_neg p2, if_neg (by omega), if_pos (by omega), if_neg (by omega)]
          rw [e]
          exact takeOpening_again h st low _ _ _ p1 hq1 hw ha (by simp; omega) (Gp.orb1 b10 b11) fun W1 hh f => EPost.go f (sayOpening_any hh st s0 s2 b2 b4 b5 hlen)
      · have e : Gp.begins d st low = (d, []) := by
          unfold Gp.begins
          rw [if_neg p2]
          by_cases q4 : d.step < st
          · rw [if_pos (.inr q4)]
          · rw [if_neg (by omega), if_pos (by omega), if_pos (.inl q2)]
        rw [e]
        exact EPost.id h (takeOpening_far eb st d.step _ low W c1 (h.bk.cell 3) hq1 rfl (by simp; unfold wrap64; omega))
  · have e : Gp.begins d st low = (d, []) := by unfold Gp.begins; rw [if_neg p2, if_pos (.inl p1)]
    rw [e]
    exact EPost.id h (takeOpening_over eb d.phase st low W (h.bk.cell 1) (by simp [p2]) (by simp [p1]))
end Go.Proofs.YtfiffbohhhehkaaGreat

namespace Go.Proofs.YtfiffbohhhehkaaGreat
open Go.RowKit
theorem allFrom_step (d : Gp.Dr) {l : List ByteArray} {i : Nat} (h : i < l.length) : Gp.allFrom d (l.drop i) i = Gp.packet d (Wn.num d.win i) l[i] ++ Gp.allFrom d (l.drop (i + 1)) (i + 1) := by
  rw [List.drop_eq_getElem_cons h]
  rfl
theorem packet_len {d : Gp.Dr} {n : Int} {s : ByteArray} (n0 : 0 ≤ n) (n7 : n ≤ 7) (hz : Gf.code d.size ≠ 0) (hs : (s.size : Int) ≤ d.size) : (Gp.packet d n s).length ≤ 4200 := by
  have h := Gp.pf_len (letter := d.letter) hz (last_rng (d := d)) ⟨n0, n7⟩ hs
  rw [Gp.packet_text]
  have := Gp.size_pos hz
  omega
/-- what a round of sayWindow finds -/
structure SW (Kp : Nat → Prop) (base eb : Nat) (d : Gp.Dr) (S C : List UInt8) (w2 : World) (i : Nat) (wr : World) (Si : List UInt8) : Prop where
  es : ES Kp base wr eb d Si C
  fr : Fr base eb w2 wr
  out : Si ++ Gp.allFrom d (d.win.l.drop i) i = S ++ Gp.all d
  len : Si.length ≤ S.length + 4200 * i
set_option maxHeartbeats 2000000 in
set_option maxRecDepth 100000 in
theorem sayWindow_go {Kp : Nat → Prop} {base eb : Nat} {W : World} {d : Gp.Dr} {p : Pl} {q : Bu} {S C : List UInt8} (h : EAt Kp base W eb d p q S C) (Post : Ending → World → Prop) (n : Nat) (hn : Hid (d.win.l.length = n)) (n7 : n ≤ 7)
    (HN : Hid (Calls Tryz.prog 115 #[.agg #[.int .i64 d.win.md, .int .i64 d.win.sz, .int .i64 d.win.bs, .slice p.w n p.wc]] W fun e w' => ∃ a c, e = .returned (.slice a n c) ∧ Hid (EAt Kp base w' eb d p q S C) ∧ Hid (Fr base eb W w') ∧ Hid (∀ i (_ : i < n), ∃ g o, a = some ⟨g, o, none⟩ ∧ ∀ W2, Fr base eb w' W2 → W2.cell? ⟨g, o + i, none⟩ = some (.int .i64 (Wn.num d.win i)))))
    (HS : Hid (∀ W1 W2 S1 (i : Nat) (_ : i < d.win.l.length), SW Kp base eb d S C W1 i W2 S1 → ∀ p2 q2, EAt Kp base W2 eb d p2 q2 S1 C → Calls Tryz.prog 83 #[.pointer (some ⟨eb, 0, none⟩), .int .i64 (Wn.num d.win i), .string d.win.l[i]] W2 fun e w' => e = .returned (.tuple #[]) ∧ ∃ S3, Hid (SW Kp base eb d S C W1 (i + 1) w' S3)))
    (HP : Hid (∀ W1 W2 S2, Fr base eb W W1 → SW Kp base eb d S C W1 n W2 S2 → Post (.returned (.tuple #[])) W2)) :
    Calls Tryz.prog 92 #[.pointer (some ⟨eb, 0, none⟩)] W Post := by
  have c6 : W.cell? ⟨eb, 6, none⟩ = some (.int .i64 d.win.md) := h.bk.cell 6
  have c7 : W.cell? ⟨eb, 7, none⟩ = some (.int .i64 d.win.sz) := h.bk.cell 7
  have c8 : W.cell? ⟨eb, 8, none⟩ = some (.int .i64 d.win.bs) := h.bk.cell 8
  have c9 : W.cell? ⟨eb, 9, none⟩ = some (.slice p.w n p.wc) := by rw [← hn.out]; exact h.bk.cell 9
  generalize d.win.md = wm at *
  generalize d.win.sz = ws at *
  generalize d.win.bs = wb at *
  clear h
  go_enter Tryz.func92, Tryz.ntmps92
  go_upto_region 1 with (go_at_call 115; refine HN.out.mono ?_; rintro e w2 ⟨a, c, rfl, h2, f2, hnum⟩)
  clear c6 c7 c8 c9 HN
  have hs0 : Hid (SW Kp base eb d S C w2 0 w2 S) := ⟨⟨p, q, h2.out⟩, Fr.refl _ _ _, by rw [List.drop_zero]; rfl, by omega⟩
  clear h2
  go_loopw [11] (fun v wr => ∃ (i : Nat) (Si : List UInt8), v = .int .i64 (i : Int) ∧ i ≤ n ∧ Hid (SW Kp base eb d S C w2 i wr Si)) (fun v _ => n - (intOf v).toNat)
  case atStart => exact ⟨0, S, rfl, Nat.zero_le _, hs0⟩
  case round =>
    obtain ⟨i, Si, rfl, hi, hw⟩ := hrel
    by_cases hlt : i < n
    · have hil : i < d.win.l.length := by rw [hn.out]; exact hlt
      obtain ⟨g, o, rfl, hc⟩ := hnum.out i hlt
      have k1 : wr.cell? ⟨g, o + i, none⟩ = some (.int .i64 (Wn.num d.win i)) := hc wr hw.out.fr
      obtain ⟨p3, q3, h3⟩ := hw.out.es
      have HT := Rg.hid (HS.out w2 wr Si i hil hw.out p3 q3 h3)
      obtain ⟨b1, o1, hb1, _, _, y1⟩ := SRow.cell (h3.win.e) hil
      have c9 : wr.cell? ⟨eb, 9, none⟩ = some (.slice (some ⟨b1, o1, none⟩) n p3.wc) := by rw [← hb1, ← hn.out]; exact h3.bk.cell 9
      generalize d.win.l[i] = D at *
      generalize Wn.num d.win i = N at *
      have iz0 : (0 : Int) ≤ (i : Int) := by omega
      have iz1 : (i : Int) < (n : Int) := by omega
      clear hc h3 hb1 HS HP hnum hs0 hil hw
      go_wp2_with (go_at_call 83; refine HT.out.mono ?_; rintro e w3 ⟨rfl, S3, hs3⟩)
      go_roundw
      case rel => exact ⟨i + 1, S3, by go_num, by omega, hs3⟩
      case measure => simp [intOf]; omega
    · have hie : i = n := by omega
      subst hie
      have hp := HP.out w2 wr Si f2.out hw.out
      go_wp2
      go_end0
      exact hp
theorem Wn.nums_get' (X : Wn.W) {i : Nat} (h : i < ((List.range X.l.length).map (Wn.num X)).length) : ((List.range X.l.length).map (Wn.num X))[i] = Wn.num X i := by simp
theorem sayWindow_any {Kp : Nat → Prop} {base eb : Nat} {W : World} {d : Gp.Dr} {p : Pl} {q : Bu} {S C : List UInt8} (h : EAt Kp base W eb d p q S C) (hb : Gp.base d) (hr : Gp.runs d) (hlen : S.length + 40000 ≤ 140737488355328) :
    Calls Tryz.prog 92 #[.pointer (some ⟨eb, 0, none⟩)] W fun e w' => EPost Kp base eb W d (S ++ Gp.all d) C e w' := by
  have hrt := Gp.runs_rt hb hr
  obtain ⟨b1, b2, b3, b4, b5, b6, b7, b8, b9, b10, b11, b12, b13, b14, b15⟩ := hb
  obtain ⟨r1, r2, r3, r4, r5, r6, r7, r8⟩ := hr
  have n7 : d.win.l.length ≤ 7 := by omega
  have hl : ((List.range d.win.l.length).map (Wn.num d.win)).length = d.win.l.length := by simp
  refine sayWindow_go h _ d.win.l.length rfl n7 ?_ ?_ ?_
  · have HR : RightsAt 109 d.win.md d.win.sz d.win.bs p.w d.win.l.length p.wc true := fun W => by rw [← hrt]; exact isRight_any d.win p.w p.wc W
    refine (nums_rightT d.win.md d.win.sz d.win.bs p.w d.win.l.length p.wc (by omega) ((List.range d.win.l.length).map (Wn.num d.win)) hl W HR (fun i hi W => ?_)).mono fun e w' ⟨a, c, h1, h2, h3, h4⟩ => ⟨a, c, h1, h.below h3, Fr.of h3 h.lt, fun i hi => ?_⟩
    · rw [Wn.nums_get' d.win hi]
      exact numberAt_any d.win p.w p.wc i hrt (by rw [hl] at hi; omega) W
    · obtain ⟨g, o, rfl, hg, hc⟩ := NRow.cell h2.out (i := i) (by rw [hl]; exact hi)
      refine ⟨g, o, rfl, fun W2 f => ?_⟩
      obtain ⟨cs, fz, hT⟩ := h4.out g o rfl
      rw [Wn.nums_get'] at hc
      rw [← hc]
      refine World.cell?_of_block (a := ⟨g, o + i, none⟩) ?_
      show W2.heap[g]? = w'.heap[g]?
      rw [hT]
      refine f.oth g _ hT (fun e => ?_) (fun c fz e => by cases e)
      have e2 := Option.some.inj e
      subst e2
      have k := (h.below h3).bk
      unfold Rg.Bk at k
      rw [hT] at k
      cases k
  · intro W1 W2 S1 i hi hw p2 q2 h2
    have hn := Wn.num_lt hrt i
    have hs := r1 _ (List.getElem_mem hi)
    have hl2 := hw.len
    refine (sayText_any h2 (Wn.num d.win i) d.win.l[i] hn.1 (by omega) b2 b6 b7 hs.2 (by omega)).mono fun e w' hp => ⟨hp.1, _, hp.2.1, hw.fr.trans hp.2.2, ?_, ?_⟩
    · rw [← hw.out, allFrom_step d hi, List.append_assoc]
    · have := packet_len (d := d) hn.1 (by omega) b2 hs.2
      rw [List.length_append]
      omega
  · intro W1 W2 S2 f hw
    have e := hw.out
    rw [List.drop_length] at e
    have e2 : S2 = S ++ Gp.all d := by rw [← e]; show S2 = S2 ++ []; rw [List.append_nil]
    exact ⟨rfl, by rw [← e2]; exact hw.es, f.trans hw.fr⟩
end Go.Proofs.YtfiffbohhhehkaaGreat

namespace Go.Proofs.YtfiffbohhhehkaaGreat
open Go.RowKit
set_option maxHeartbeats 1000000 in
set_option maxRecDepth 100000 in
theorem takeClose_closing (eb : Nat) (st : Int) (W : World) (c1 : W.cell? ⟨eb, 1, none⟩ = some (.int .i64 3)) (c3 : W.cell? ⟨eb, 3, none⟩ = some (.int .i64 st)) (f : ∀ i, W.frozen? ⟨eb, i, none⟩ = false) :
    Calls Tryz.prog 80 #[.pointer (some ⟨eb, 0, none⟩)] W fun e w' => e = .returned (.tuple #[]) ∧ w' = (W.setCell ⟨eb, 1, none⟩ (.int .i64 4)).setCell ⟨eb, 3, none⟩ (.int .i64 0) := by
  go_enter Tryz.func80, Tryz.ntmps80
  go_wp2
  go_end0
  exact ⟨rfl, rfl⟩
set_option maxHeartbeats 1000000 in
set_option maxRecDepth 100000 in
theorem takeClose_closed (eb : Nat) (st : Int) (W : World) (c1 : W.cell? ⟨eb, 1, none⟩ = some (.int .i64 4)) (c3 : W.cell? ⟨eb, 3, none⟩ = some (.int .i64 st)) (h : (st == 1) = false) :
    Calls Tryz.prog 80 #[.pointer (some ⟨eb, 0, none⟩)] W fun e w' => e = .returned (.tuple #[]) ∧ w' = W := by
  go_enter Tryz.func80, Tryz.ntmps80
  go_wp2
  go_end0
  exact ⟨rfl, rfl⟩
set_option maxHeartbeats 1000000 in
set_option maxRecDepth 100000 in
theorem takeClose_more (eb : Nat) (W : World) (Post : Ending → World → Prop) (c1 : W.cell? ⟨eb, 1, none⟩ = some (.int .i64 4)) (c3 : W.cell? ⟨eb, 3, none⟩ = some (.int .i64 1))
    (HS : Hid (Calls Tryz.prog 46 #[.pointer (some ⟨eb, 0, none⟩)] W fun e w' => e = .returned (.tuple #[]) ∧ Post (.returned (.tuple #[])) w')) :
    Calls Tryz.prog 80 #[.pointer (some ⟨eb, 0, none⟩)] W Post := by
  go_enter Tryz.func80, Tryz.ntmps80
  go_wp2_with (go_at_call 46; refine HS.out.mono ?_; rintro e w3 ⟨rfl, hp⟩)
  go_end0
  exact hp
set_option maxHeartbeats 1000000 in
set_option maxRecDepth 100000 in
theorem takeClose_failed (eb : Nat) (W : World) (c1 : W.cell? ⟨eb, 1, none⟩ = some (.int .i64 5)) :
    Calls Tryz.prog 80 #[.pointer (some ⟨eb, 0, none⟩)] W fun e w' => e = .returned (.tuple #[]) ∧ w' = W := by
  go_enter Tryz.func80, Tryz.ntmps80
  go_wp2
  go_end0
  exact ⟨rfl, rfl⟩
set_option maxHeartbeats 1000000 in
set_option maxRecDepth 100000 in
theorem takeClose_open {Kp : Nat → Prop} {base eb : Nat} {W : World} {d : Gp.Dr} {p : Pl} {q : Bu} {S C : List UInt8} (h : EAt Kp base W eb d p q S C) (ph : Int) (hp0 : d.phase = ph) (hph : ph = 1 ∨ ph = 2) (Post : Ending → World → Prop)
    (HS : Hid (∀ W1, EAt Kp base W1 eb { d with phase := 4, step := 1 } p q S C → Fr base eb W W1 → Calls Tryz.prog 46 #[.pointer (some ⟨eb, 0, none⟩)] W1 fun e w' => e = .returned (.tuple #[]) ∧ Post (.returned (.tuple #[])) w')) :
    Calls Tryz.prog 80 #[.pointer (some ⟨eb, 0, none⟩)] W Post := by
  have c1 : W.cell? ⟨eb, 1, none⟩ = some (.int .i64 ph) := by rw [← hp0]; exact h.bk.cell 1
  have c3 : W.cell? ⟨eb, 3, none⟩ = some (.int .i64 d.step) := h.bk.cell 3
  have fz := h.bk.thaw
  have h7 := Rg.hid ((h.upd 1 (.int .i64 4) { d with phase := 4 } rfl rfl rfl rfl rfl).upd 3 (.int .i64 1) { d with phase := 4, step := 1 } rfl rfl rfl rfl rfl)
  have f7 : Hid (Fr base eb W ((W.setCell ⟨eb, 1, none⟩ (.int .i64 4)).setCell ⟨eb, 3, none⟩ (.int .i64 1))) := (Fr.set h.new _ _).trans (Fr.set h.new _ _)
  clear h hp0
  generalize d.step = sp at *
  rcases hph with rfl | rfl
  · go_enter Tryz.func80, Tryz.ntmps80
    go_upto_region 9 with fail
    generalize World.setCell _ _ _ = w1 at *
    go_wp2_with (go_at_call 46; refine (HS.out _ h7.out f7.out).mono ?_; rintro e w3 ⟨rfl, hp⟩)
    go_end0
    exact hp
  · go_enter Tryz.func80, Tryz.ntmps80
    go_upto_region 9 with fail
    generalize World.setCell _ _ _ = w1 at *
    go_wp2_with (go_at_call 46; refine (HS.out _ h7.out f7.out).mono ?_; rintro e w3 ⟨rfl, hp⟩)
    go_end0
    exact hp
theorem takeClose_any {Kp : Nat → Prop} {base eb : Nat} {W : World} {d : Gp.Dr} {p : Pl} {q : Bu} {S C : List UInt8} (h : EAt Kp base W eb d p q S C) (h1 : 1 ≤ d.phase) (h5 : d.phase ≤ 5) (hlen : S.length + 6 ≤ 140737488355328) :
    Calls Tryz.prog 80 #[.pointer (some ⟨eb, 0, none⟩)] W fun e w' => EPost Kp base eb W (Gp.closes d).1 (S ++ (Gp.closes d).2) C e w' := by
  have c1 : W.cell? ⟨eb, 1, none⟩ = some (.int .i64 d.phase) := h.bk.cell 1
  unfold Gp.closes
  by_cases p3 : d.phase = 3
  · rw [if_pos p3]
    rw [p3] at c1
    refine (takeClose_closing eb d.step W c1 (h.bk.cell 3) h.bk.thaw).mono ?_
    rintro e w' ⟨rfl, rfl⟩
    dsimp only
    rw [List.append_nil]
    exact ⟨rfl, ⟨p, q, (h.upd 1 (.int .i64 4) { d with phase := 4 } rfl rfl rfl rfl rfl).upd 3 (.int .i64 0) { d with phase := 4, step := 0 } rfl rfl rfl rfl rfl⟩, (Fr.set h.new _ _).trans (Fr.set h.new _ _)⟩
  rw [if_neg p3]
  by_cases p4 : d.phase = 4
  · rw [if_pos p4]
    rw [p4] at c1
    dsimp only
    by_cases s1 : d.step = 1
    · rw [if_pos s1]
      exact takeClose_more eb W _ c1 (by rw [← s1]; exact h.bk.cell 3) (EPost.split (sayClose_any h hlen))
    · rw [if_neg s1]
      exact EPost.id h (takeClose_closed eb d.step W c1 (h.bk.cell 3) (by simp [s1]))
  rw [if_neg p4]
  by_cases p5 : d.phase = 5
  · rw [if_pos p5]
    rw [p5] at c1
    exact EPost.id h (takeClose_failed eb W c1)
  rw [if_neg p5]
  exact takeClose_open h d.phase rfl (by omega) _ fun W1 hh f => EPost.go f (sayClose_any hh hlen)
set_option maxHeartbeats 2000000 in
set_option maxRecDepth 100000 in
theorem acknowledge_go {Kp : Nat → Prop} {base eb : Nat} {W : World} {d : Gp.Dr} {p : Pl} {q : Bu} {S C : List UInt8} (h : EAt Kp base W eb d p q S C) (n : Int) (X : Wn.W) (K xn : Nat) (hxn : Hid (X.l.length = xn)) (bK : Bool) (hK : decide (0 < K) = bK) (Post : Ending → World → Prop) (ln : Nat) (hln : Hid (d.win.l.length = ln))
    (HA : Hid (Calls Tryz.prog 126 #[.agg #[.int .i64 d.win.md, .int .i64 d.win.sz, .int .i64 d.win.bs, .slice p.w ln p.wc], .int .i64 n] W fun e w' => ∃ a c, e = .returned (.tuple #[.agg #[.int .i64 X.md, .int .i64 X.sz, .int .i64 X.bs, .slice a xn c], .int .i64 (K : Int)]) ∧ Hid (EAt Kp base w' eb d p q S C) ∧ Hid (Fr base eb W w') ∧ Hid (TRow Kp strE base eb [q.sb, q.cb, .slice p.t d.took.length p.tc] w' a X.l) ∧ Hid (X.l.length ≤ c)))
    (HP : Hid (∀ W1, ES Kp base W1 eb { d with win := X, tries := if 0 < K then 0 else d.tries } S C → Fr base eb W W1 → Post (.returned (.tuple #[])) W1)) :
    Calls Tryz.prog 106 #[.pointer (some ⟨eb, 0, none⟩), .int .i64 n] W Post := by
  have c6 : W.cell? ⟨eb, 6, none⟩ = some (.int .i64 d.win.md) := h.bk.cell 6
  have c7 : W.cell? ⟨eb, 7, none⟩ = some (.int .i64 d.win.sz) := h.bk.cell 7
  have c8 : W.cell? ⟨eb, 8, none⟩ = some (.int .i64 d.win.bs) := h.bk.cell 8
  have c9 : W.cell? ⟨eb, 9, none⟩ = some (.slice p.w ln p.wc) := by rw [← hln.out]; exact h.bk.cell 9
  have hK1 : decide ((0 : Int) < (K : Int)) = bK := by rw [← hK]; simp
  generalize d.win.md = wm at *
  generalize d.win.sz = ws at *
  generalize d.win.bs = wb at *
  clear h
  go_enter Tryz.func106, Tryz.ntmps106
  go_upto_region 2 with (go_at_call 126; refine HA.out.mono ?_; rintro e w2 ⟨a, c, rfl, h2, f2, hr, hc⟩; have e6 : w2.cell? ⟨eb, 6, none⟩ = some (.int .i64 d.win.md) := h2.out.bk.cell 6; have e7 : w2.cell? ⟨eb, 7, none⟩ = some (.int .i64 d.win.sz) := h2.out.bk.cell 7; have e8 : w2.cell? ⟨eb, 8, none⟩ = some (.int .i64 d.win.bs) := h2.out.bk.cell 8; have e9 : w2.cell? ⟨eb, 9, none⟩ = some (.slice p.w d.win.l.length p.wc) := h2.out.bk.cell 9; have fz := h2.out.bk.thaw)
  have hw := Rg.hid (h2.out.setW X a c hr.out hc.out)
  rw [hxn.out] at hw
  unfold SetW at hw
  generalize World.setCell _ _ _ = w3 at *
  have f3 := Rg.hid (f2.out.trans hw.out.2)
  have h3 := Rg.hid hw.out.1
  clear e6 e7 e8 e9 fz c6 c7 c8 c9 HA h2 hw hr hc f2
  cases bK with
  | true =>
    have hK2 : 0 < K := of_decide_eq_true hK
    have c16 : w3.cell? ⟨eb, 16, none⟩ = some (.int .i64 d.tries) := h3.out.bk.cell 16
    have fz := h3.out.bk.thaw
    have h4 := Rg.hid (h3.out.upd 16 (.int .i64 0) { d with win := X, tries := 0 } rfl rfl rfl rfl rfl)
    have f4 := Rg.hid (f3.out.trans (Fr.set h3.out.new 16 (.int .i64 0)))
    clear h3 f3
    go_wp2
    generalize World.setCell _ _ _ = w4 at *
    go_end0
    exact HP.out w4 ⟨_, _, by rw [if_pos hK2]; exact h4.out⟩ f4.out
  | false =>
    have hK2 : ¬ 0 < K := of_decide_eq_false hK
    go_wp2
    go_end0
    exact HP.out w3 ⟨_, _, by rw [if_neg hK2]; exact h3.out⟩ f3.out
theorem acknowledge_any {Kp : Nat → Prop} {base eb : Nat} {W : World} {d : Gp.Dr} {p : Pl} {q : Bu} {S C : List UInt8} (h : EAt Kp base W eb d p q S C) (n : Int) :
    Calls Tryz.prog 106 #[.pointer (some ⟨eb, 0, none⟩), .int .i64 n] W fun e w' => EPost Kp base eb W (Gp.acked d n) S C e w' := by
  refine acknowledge_go h n (Wn.ack d.win n).1 (Wn.ack d.win n).2 _ rfl _ rfl _ _ rfl ?_ (fun W1 h1 f1 => ⟨rfl, h1, f1⟩)
  refine (ack_anyN d.win p.w p.wc n W ⟨h.win.e, h.wcap⟩).mono fun e w' ⟨a, c, h1, h2, h3, h4⟩ => ⟨a, c, h1, h.below h3, Fr.of h3 h.lt, ?_, h2.cap⟩
  rcases h4 with ⟨e1, e2, e3⟩ | h4
  · rw [e1, e2]; exact (h.below h3).win
  · exact h.row h2.row h4
set_option maxHeartbeats 1000000 in
set_option maxRecDepth 100000 in
theorem takeReject_said (eb : Nat) (wt A : Int) (W : World) (c15 : W.cell? ⟨eb, 15, none⟩ = some (.int .i64 wt)) (h4 : bits .and .i64 wt 1 = A) (h5 : (A == 0) = false) :
    Calls Tryz.prog 108 #[.pointer (some ⟨eb, 0, none⟩)] W fun e w' => e = .returned (.tuple #[]) ∧ w' = W := by
  go_enter Tryz.func108, Tryz.ntmps108
  go_wp2
  go_end0
  exact ⟨rfl, rfl⟩
set_option maxHeartbeats 1000000 in
set_option maxRecDepth 100000 in
theorem takeReject_go {Kp : Nat → Prop} {base eb : Nat} {W : World} {d : Gp.Dr} {p : Pl} {q : Bu} {S C : List UInt8} (h : EAt Kp base W eb d p q S C) (A O : Int) (Post : Ending → World → Prop) (h4 : bits .and .i64 d.wait 1 = A) (h5 : (A == 0) = true) (h6 : bits .or .i64 d.wait 1 = O)
    (HS : Hid (∀ W1, EAt Kp base W1 eb { d with wait := O } p q S C → Fr base eb W W1 → Calls Tryz.prog 92 #[.pointer (some ⟨eb, 0, none⟩)] W1 fun e w' => e = .returned (.tuple #[]) ∧ Post (.returned (.tuple #[])) w')) :
    Calls Tryz.prog 108 #[.pointer (some ⟨eb, 0, none⟩)] W Post := by
  have c15 : W.cell? ⟨eb, 15, none⟩ = some (.int .i64 d.wait) := h.bk.cell 15
  have fz := h.bk.thaw
  have h7 := Rg.hid (h.upd 15 (.int .i64 O) { d with wait := O } rfl rfl rfl rfl rfl)
  have f7 : Hid (Fr base eb W (W.setCell ⟨eb, 15, none⟩ (.int .i64 O))) := Fr.set h.new _ _
  clear h
  generalize d.wait = wt at *
  go_enter Tryz.func108, Tryz.ntmps108
  go_upto_region 2 with fail
  generalize World.setCell _ _ _ = w1 at *
  go_wp2_with (go_at_call 92; refine (HS.out _ h7.out f7.out).mono ?_; rintro e w3 ⟨rfl, hp⟩)
  go_end0
  exact hp
/-- what takeReject comes to -/
def Gp.rejected (d : Gp.Dr) : Gp.Dr × List UInt8 := if d.wait % 2 = 1 then (d, []) else ({ d with wait := Gp.or1 d.wait }, Gp.all { d with wait := Gp.or1 d.wait })
theorem takeReject_any {Kp : Nat → Prop} {base eb : Nat} {W : World} {d : Gp.Dr} {p : Pl} {q : Bu} {S C : List UInt8} (h : EAt Kp base W eb d p q S C) (hb : Gp.base d) (hr : Gp.runs d) (hlen : S.length + 40000 ≤ 140737488355328) :
    Calls Tryz.prog 108 #[.pointer (some ⟨eb, 0, none⟩)] W fun e w' => EPost Kp base eb W (Gp.rejected d).1 (S ++ (Gp.rejected d).2) C e w' := by
  obtain ⟨b1, b2, b3, b4, b5, b6, b7, b8, b9, b10, b11, b12, b13, b14, b15⟩ := hb
  have ha := Gp.and1 b10 b11
  unfold Gp.rejected
  by_cases q3 : d.wait % 2 = 1
  · rw [if_pos q3]
    exact EPost.id h (takeReject_said eb d.wait _ W (h.bk.cell 15) ha (by rw [q3]; decide))
  · rw [if_neg q3]
    have hw := Gp.wait1 b10 b11
    exact takeReject_go h _ _ _ ha (by simp; omega) (Gp.orb1 b10 b11) fun W1 hh f => EPost.go f (sayWindow_any hh ⟨b1, b2, b3, b4, b5, b6, b7, b8, b9, hw.1, hw.2, b12, b13, b14, b15⟩ hr hlen)
end Go.Proofs.YtfiffbohhhehkaaGreat

namespace Go.Proofs.YtfiffbohhhehkaaGreat
open Go.RowKit
theorem EAt.drewN {Kp : Nat → Prop} {base eb : Nat} {W : World} {d : Gp.Dr} {p : Pl} {q : Bu} {S C : List UInt8} (h : EAt Kp base W eb d p q S C) (n : Nat) : EAt Kp base (W.drewN n) eb d p q S C := h.below (Rg.drewN (Below.refl _ _) n)
set_option maxHeartbeats 2000000 in
set_option maxRecDepth 100000 in
theorem takeData_say {Kp : Nat → Prop} {base eb : Nat} {W : World} {d : Gp.Dr} {p : Pl} {q : Bu} {S C : List UInt8} (h : EAt Kp base W eb d p q S C) (ty hi lo sz k : Int) (D : ByteArray) (Post : Ending → World → Prop) (k0 : (k == 0) = false) (bl : Bool) (hl : decide (k < d.room) = bl)
    (HA : Hid (∀ W, Calls Tryz.prog 127 #[.int .i64 d.wants, .int .i64 hi, .int .i64 8] W fun e w' => e = .returned (.int .i64 k) ∧ w' = W))
    (HS : Hid (∀ W1, EAt Kp base W1 eb d p q S C → Fr base eb W W1 → bl = true → Calls Tryz.prog 128 #[.pointer (some ⟨eb, 0, none⟩)] W1 fun e w' => e = .returned (.tuple #[]) ∧ Post (.returned (.tuple #[])) w'))
    (HR : Hid (∀ W1, EAt Kp base W1 eb d p q S C → Fr base eb W W1 → bl = false → Calls Tryz.prog 103 #[.pointer (some ⟨eb, 0, none⟩)] W1 fun e w' => e = .returned (.tuple #[]) ∧ Post (.returned (.tuple #[])) w')) :
    Calls Tryz.prog 107 #[.pointer (some ⟨eb, 0, none⟩), .agg #[.int .i64 ty, .int .i64 hi, .int .i64 lo, .int .i64 sz, .string D]] W Post := by
  have h1 := Rg.hid (h.alloc (.cells #[.int .i64 ty, .int .i64 hi, .int .i64 lo, .int .i64 sz, .string D] 80))
  have f1 : Hid (Fr base eb W (W.alloc (.cells #[.int .i64 ty, .int .i64 hi, .int .i64 lo, .int .i64 sz, .string D] 80))) := Fr.alloc h.lt _
  have kF : Hid (Rg.Bk W.heap.size [.int .i64 ty, .int .i64 hi, .int .i64 lo, .int .i64 sz, .string D] 80 (W.alloc (.cells #[.int .i64 ty, .int .i64 hi, .int .i64 lo, .int .i64 sz, .string D] 80))) := Rg.Bk.new rfl
  clear h
  go_enter Tryz.func107, Tryz.ntmps107
  go_upto_region 1 with fail
  generalize World.alloc _ _ = w1 at *
  obtain ⟨F, hF⟩ : ∃ F, F = W.heap.size := ⟨_, rfl⟩
  rw [← hF] at kF ⊢
  replace hF := Rg.hid hF
  have c10 : w1.cell? ⟨eb, 10, none⟩ = some (.int .i64 d.wants) := h1.out.bk.cell 10
  have c5 : w1.cell? ⟨eb, 5, none⟩ = some (.int .i64 d.room) := h1.out.bk.cell 5
  have k1 : w1.cell? ⟨F, 1, none⟩ = some (.int .i64 hi) := kF.out.cell 1
  go_quiet ((go_at_call 127; exact Calls.quiet_of_same (HA.out _)))
  have h2 := Rg.hid (h1.out.drewN nq)
  have f2 : Hid (Fr base eb W (w1.drewN nq)) := f1.out.trans (Fr.of (Rg.drewN (Below.refl _ _) nq) h1.out.lt)
  have c5' : (w1.drewN nq).cell? ⟨eb, 5, none⟩ = some (.int .i64 d.room) := h2.out.bk.cell 5
  clear h1 f1 kF c10 c5 k1 HA
  generalize World.drewN _ _ = w2 at *
  generalize d.room = rm at *
  cases bl with
  | true =>
    go_wp2_with (go_at_call 128; refine (HS.out _ h2.out f2.out rfl).mono ?_; rintro e w3 ⟨rfl, hp⟩)
    go_end0
    exact hp
  | false =>
    go_wp2_with (go_at_call 103; refine (HR.out _ h2.out f2.out rfl).mono ?_; rintro e w3 ⟨rfl, hp⟩)
    go_end0
    exact hp
set_option maxHeartbeats 2000000 in
set_option maxRecDepth 100000 in
theorem takeData_in {Kp : Nat → Prop} {base eb : Nat} {W : World} {d : Gp.Dr} {p : Pl} {q : Bu} {S C : List UInt8} (h : EAt Kp base W eb d p q S C) (ty hi lo sz y z : Int) (D : ByteArray) (Post : Ending → World → Prop) (hy : wrap64 (d.wants + 1) = y) (hz : y.tmod 8 = z)
    (HA : Hid (∀ W, Calls Tryz.prog 127 #[.int .i64 d.wants, .int .i64 hi, .int .i64 8] W fun e w' => e = .returned (.int .i64 0) ∧ w' = W))
    (HC : Hid (∀ W1, EAt Kp base W1 eb d p q S C → Calls Tryz.prog 97 #[.pointer (some ⟨eb, 20, none⟩), .string D] W1 fun e w' => e = .returned (.tuple #[.int .i64 D.size, .nilIface]) ∧ Hid (ES Kp base w' eb d S (C ++ D.data.toList)) ∧ Hid (Fr base eb W1 w')))
    (HR : Hid (∀ W1 p1 q1, EAt Kp base W1 eb { d with wants := z } p1 q1 S (C ++ D.data.toList) → Fr base eb W W1 → Calls Tryz.prog 103 #[.pointer (some ⟨eb, 0, none⟩)] W1 fun e w' => e = .returned (.tuple #[]) ∧ Post (.returned (.tuple #[])) w')) :
    Calls Tryz.prog 107 #[.pointer (some ⟨eb, 0, none⟩), .agg #[.int .i64 ty, .int .i64 hi, .int .i64 lo, .int .i64 sz, .string D]] W Post := by
  have h1 := Rg.hid (h.alloc (.cells #[.int .i64 ty, .int .i64 hi, .int .i64 lo, .int .i64 sz, .string D] 80))
  have f1 : Hid (Fr base eb W (W.alloc (.cells #[.int .i64 ty, .int .i64 hi, .int .i64 lo, .int .i64 sz, .string D] 80))) := Fr.alloc h.lt _
  have kF : Hid (Rg.Bk W.heap.size [.int .i64 ty, .int .i64 hi, .int .i64 lo, .int .i64 sz, .string D] 80 (W.alloc (.cells #[.int .i64 ty, .int .i64 hi, .int .i64 lo, .int .i64 sz, .string D] 80))) := Rg.Bk.new rfl
  clear h
  go_enter Tryz.func107, Tryz.ntmps107
  go_upto_region 1 with fail
  generalize World.alloc _ _ = w1 at *
  obtain ⟨F, hF⟩ : ∃ F, F = W.heap.size := ⟨_, rfl⟩
  rw [← hF] at kF ⊢
  replace hF := Rg.hid hF
  have c10 : w1.cell? ⟨eb, 10, none⟩ = some (.int .i64 d.wants) := h1.out.bk.cell 10
  have k1 : w1.cell? ⟨F, 1, none⟩ = some (.int .i64 hi) := kF.out.cell 1
  go_quiet ((go_at_call 127; exact Calls.quiet_of_same (HA.out _)))
  have h2 := Rg.hid (h1.out.drewN nq)
  have f2 : Hid (Fr base eb W (w1.drewN nq)) := f1.out.trans (Fr.of (Rg.drewN (Below.refl _ _) nq) h1.out.lt)
  have k4 : (w1.drewN nq).cell? ⟨F, 4, none⟩ = some (.string D) := (kF.out.below (Rg.drewN (Below.refl _ _) nq) kF.out.lt).cell 4
  clear h1 f1 kF c10 k1 HA
  generalize World.drewN _ _ = w2 at *
  have h2d := Rg.hid h2.out.drew
  have f2d : Hid (Fr base eb W w2.drew) := f2.out.drew
  go_upto_region 4 with fail
  go_region_with (go_at_call 97; refine (HC.out _ h2d.out).mono ?_; rintro e w3 ⟨rfl, h3, f3⟩)
  all_goals (
    obtain ⟨p3, q3, h4⟩ := h3.out
    have f4 := Rg.hid (f2d.out.trans f3.out)
    have c10 : w3.cell? ⟨eb, 10, none⟩ = some (.int .i64 d.wants) := h4.bk.cell 10
    have fz := h4.bk.thaw
    have h5 := Rg.hid (h4.upd 10 (.int .i64 z) { d with wants := z } rfl rfl rfl rfl rfl)
    have f5 := Rg.hid (f4.out.trans (Fr.set h4.new 10 (.int .i64 z)))
    clear h3 f3 h4 f4 h2 f2 h2d f2d k4 HC
    generalize d.wants = wn at *
    go_upto_region 6 with fail
    generalize World.setCell _ _ _ = w5 at *
    go_wp2_with (go_at_call 103; refine (HR.out _ _ _ h5.out f5.out).mono ?_; rintro e w6 ⟨rfl, hp⟩)
    go_end0
    exact hp)
end Go.Proofs.YtfiffbohhhehkaaGreat
