/-
  Walks of layer 15: isOpen, mayTry, cut, open, openingStep. Walks of layer 15: which packet opens; agree, takeOpening. Walks of layer 15: agree.
-/
import Derived.Test.YtfiffbohhhehkaaGreatBsPg4
import Derived.Test.YtfiffbohhhehkaaGreatBuWinB
import Derived.BigQuiet
namespace Go.Proofs.YtfiffbohhhehkaaGreat
open Go.RowKit
set_option maxHeartbeats 1000000 in
set_option maxRecDepth 100000 in
theorem isOpen_go (eb : Nat) (x : Int) (w : World) (c : w.cell? ⟨eb, 1, none⟩ = some (.int .i64 x)) (b1 b2 : Bool) (h1 : (x == 1) = b1) (h2 : (x == 2) = b2) :
    Calls Tryz.prog 43 #[.pointer (some ⟨eb, 0, none⟩)] w fun e w' => e = .returned (.bool (b1 || b2)) ∧ w' = w := by
  cases b1 with
  | true =>
    go_enter Tryz.func43, Tryz.ntmps43
    go_wp2
    go_ret
    exact ⟨rfl, rfl⟩
  | false =>
    go_enter Tryz.func43, Tryz.ntmps43
    go_wp2
    go_ret
    exact ⟨rfl, rfl⟩
set_option maxHeartbeats 1000000 in
set_option maxRecDepth 100000 in
theorem mayTry_no (eb : Nat) (x y ph : Int) (w : World) (c : w.cell? ⟨eb, 16, none⟩ = some (.int .i64 x)) (c1 : w.cell? ⟨eb, 1, none⟩ = some (.int .i64 ph)) (f : ∀ i, w.frozen? ⟨eb, i, none⟩ = false) (h1 : wrap64 (x + 1) = y) (h2 : decide (12 < y) = true) :
    Calls Tryz.prog 70 #[.pointer (some ⟨eb, 0, none⟩)] w fun e w' => e = .returned (.bool false) ∧ w' = (w.setCell ⟨eb, 16, none⟩ (.int .i64 y)).setCell ⟨eb, 1, none⟩ (.int .i64 5) := by
  go_enter Tryz.func70, Tryz.ntmps70
  go_wp2
  go_ret
  exact ⟨rfl, rfl⟩
set_option maxHeartbeats 1000000 in
set_option maxRecDepth 100000 in
theorem mayTry_yes (eb : Nat) (x y : Int) (w : World) (c : w.cell? ⟨eb, 16, none⟩ = some (.int .i64 x)) (f : ∀ i, w.frozen? ⟨eb, i, none⟩ = false) (h1 : wrap64 (x + 1) = y) (h2 : decide (12 < y) = false) :
    Calls Tryz.prog 70 #[.pointer (some ⟨eb, 0, none⟩)] w fun e w' => e = .returned (.bool true) ∧ w' = w.setCell ⟨eb, 16, none⟩ (.int .i64 y) := by
  go_enter Tryz.func70, Tryz.ntmps70
  go_wp2
  go_ret
  exact ⟨rfl, rfl⟩
set_option maxHeartbeats 1000000 in
set_option maxRecDepth 100000 in
theorem cut_go (eb n : Nat) (X : ByteArray) (a y : Int) (w : World) (c12 : w.cell? ⟨eb, 12, none⟩ = some (.string X)) (c13 : w.cell? ⟨eb, 13, none⟩ = some (.int .i64 a)) (f : ∀ i, w.frozen? ⟨eb, i, none⟩ = false) (q0 : (0 : Int) ≤ (n : Int)) (q1 : (n : Int) ≤ (X.size : Int)) (h1 : wrap64 (a + n) = y) :
    Calls Tryz.prog 57 #[.pointer (some ⟨eb, 0, none⟩), .int .i64 (n : Int)] w fun e w' => e = .returned (.tuple #[]) ∧ w' = (w.setCell ⟨eb, 12, none⟩ (.string (X.extract n X.size))).setCell ⟨eb, 13, none⟩ (.int .i64 y) := by
  go_enter Tryz.func57, Tryz.ntmps57
  go_wp2
  go_end0
  exact ⟨rfl, rfl⟩
theorem isOpen_any {Kp : Nat → Prop} {base eb : Nat} {W : World} {d : Gp.Dr} {p : Pl} {q : Bu} {S C : List UInt8} (h : EAt Kp base W eb d p q S C) :
    Calls Tryz.prog 43 #[.pointer (some ⟨eb, 0, none⟩)] W fun e w' => e = .returned (.bool (decide (d.phase = 1 ∨ d.phase = 2))) ∧ w' = W := by
  have := isOpen_go eb d.phase W (h.bk.cell 1) _ _ rfl rfl
  have e : (d.phase == 1 || d.phase == 2) = decide (d.phase = 1 ∨ d.phase = 2) := by rw [Bool.decide_or]; rfl
  rw [e] at this
  exact this
theorem mayTry_n {Kp : Nat → Prop} {base eb : Nat} {W : World} {d : Gp.Dr} {p : Pl} {q : Bu} {S C : List UInt8} (h : EAt Kp base W eb d p q S C) (t0 : 0 ≤ d.tries) (t1 : d.tries ≤ 13) (hy : 12 < d.tries + 1) :
    Calls Tryz.prog 70 #[.pointer (some ⟨eb, 0, none⟩)] W fun e w' => e = .returned (.bool false) ∧ ES Kp base w' eb { d with tries := d.tries + 1, phase := 5 } S C ∧ Fr base eb W w' := by
  refine (mayTry_no eb d.tries (d.tries + 1) d.phase W (h.bk.cell 16) (h.bk.cell 1) h.bk.thaw (by unfold wrap64; omega) (by simpa using hy)).mono ?_
  rintro e w' ⟨rfl, rfl⟩
  exact ⟨rfl, ⟨p, q, (h.upd 16 (.int .i64 (d.tries + 1)) { d with tries := d.tries + 1 } rfl rfl rfl rfl rfl).upd 1 (.int .i64 5) { d with tries := d.tries + 1, phase := 5 } rfl rfl rfl rfl rfl⟩, (Fr.set h.new _ _).trans (Fr.set h.new _ _)⟩
theorem mayTry_y {Kp : Nat → Prop} {base eb : Nat} {W : World} {d : Gp.Dr} {p : Pl} {q : Bu} {S C : List UInt8} (h : EAt Kp base W eb d p q S C) (t0 : 0 ≤ d.tries) (t1 : d.tries ≤ 13) (hy : ¬ 12 < d.tries + 1) :
    Calls Tryz.prog 70 #[.pointer (some ⟨eb, 0, none⟩)] W fun e w' => e = .returned (.bool true) ∧ ES Kp base w' eb { d with tries := d.tries + 1 } S C ∧ Fr base eb W w' := by
  refine (mayTry_yes eb d.tries (d.tries + 1) W (h.bk.cell 16) h.bk.thaw (by unfold wrap64; omega) (by simpa using hy)).mono ?_
  rintro e w' ⟨rfl, rfl⟩
  exact ⟨rfl, ⟨p, q, h.upd 16 (.int .i64 (d.tries + 1)) { d with tries := d.tries + 1 } rfl rfl rfl rfl rfl⟩, Fr.set h.new _ _⟩
theorem drop_bytes (b : List UInt8) (n : Nat) : (⟨b.toArray⟩ : ByteArray).extract n (⟨b.toArray⟩ : ByteArray).size = ⟨(b.drop n).toArray⟩ := by
  apply ByteArray.ext
  apply Array.ext'
  show ((⟨b.toArray⟩ : ByteArray).extract n (⟨b.toArray⟩ : ByteArray).size).data.toList = _
  have hsz : (⟨b.toArray⟩ : ByteArray).size = b.length := by show b.toArray.size = _; simp
  rw [Gp.ex_bytes, hsz, List.take_of_length_le (by simp)]
theorem size_bytes (b : List UInt8) : (⟨b.toArray⟩ : ByteArray).size = b.length := by show b.toArray.size = _; simp
theorem cut_any {Kp : Nat → Prop} {base eb : Nat} {W : World} {d : Gp.Dr} {p : Pl} {q : Bu} {S C : List UInt8} (h : EAt Kp base W eb d p q S C) (n : Nat) (hn : n ≤ d.buf.length) (a0 : 0 ≤ d.at_) (a1 : d.at_ + n ≤ 1099511627776) :
    Calls Tryz.prog 57 #[.pointer (some ⟨eb, 0, none⟩), .int .i64 (n : Int)] W fun e w' => EPost Kp base eb W { d with buf := d.buf.drop n, at_ := d.at_ + n } S C e w' := by
  refine (cut_go eb n ⟨d.buf.toArray⟩ d.at_ (d.at_ + n) W (h.bk.cell 12) (h.bk.cell 13) h.bk.thaw (by omega) (by rw [size_bytes]; omega) (by unfold wrap64; omega)).mono ?_
  rintro e w' ⟨rfl, rfl⟩
  rw [drop_bytes]
  exact ⟨rfl, ⟨p, q, (h.upd 12 (.string ⟨(d.buf.drop n).toArray⟩) { d with buf := d.buf.drop n } rfl rfl rfl rfl rfl).upd 13 (.int .i64 (d.at_ + n)) { d with buf := d.buf.drop n, at_ := d.at_ + n } rfl rfl rfl rfl rfl⟩, (Fr.set h.new _ _).trans (Fr.set h.new _ _)⟩
/-- the stores of a whole window into an end -/
def SetW (W : World) (eb : Nat) (m s b : Int) (v : Value) : World := (((W.setCell ⟨eb, 6, none⟩ (.int .i64 m)).setCell ⟨eb, 7, none⟩ (.int .i64 s)).setCell ⟨eb, 8, none⟩ (.int .i64 b)).setCell ⟨eb, 9, none⟩ v
theorem EAt.setW {Kp : Nat → Prop} {base eb : Nat} {W : World} {d : Gp.Dr} {p : Pl} {q : Bu} {S C : List UInt8} (h : EAt Kp base W eb d p q S C) (X : Wn.W) (a : Option Addr) (c : Nat) (hr : TRow Kp strE base eb [q.sb, q.cb, .slice p.t d.took.length p.tc] W a X.l) (hc : X.l.length ≤ c) :
    EAt Kp base (SetW W eb X.md X.sz X.bs (.slice a X.l.length c)) eb { d with win := X } { p with w := a, wc := c } q S C ∧ Fr base eb W (SetW W eb X.md X.sz X.bs (.slice a X.l.length c)) := by
  have f6 : Fr base eb W (W.setCell ⟨eb, 6, none⟩ (.int .i64 X.md)) := Fr.set h.new _ _
  have h6 := h.upd 6 (.int .i64 X.md) { d with win := { d.win with md := X.md } } rfl rfl rfl rfl rfl
  have f7 := f6.trans (Fr.set (W := W.setCell ⟨eb, 6, none⟩ (.int .i64 X.md)) h.new 7 (.int .i64 X.sz))
  have h7 := h6.upd 7 (.int .i64 X.sz) { d with win := { d.win with md := X.md, sz := X.sz } } rfl rfl rfl rfl rfl
  have f8 := f7.trans (Fr.set h.new 8 (.int .i64 X.bs))
  have h8 := h7.upd 8 (.int .i64 X.bs) { d with win := { d.win with md := X.md, sz := X.sz, bs := X.bs } } rfl rfl rfl rfl rfl
  refine ⟨h8.put 9 (.slice a X.l.length c) { d with win := X } { p with w := a, wc := c } rfl rfl ⟨rfl, rfl⟩ ?_ hc h8.ahead h8.queue, f8.trans (Fr.set h.new 9 _)⟩
  refine hr.kept f8.bel (fun g _ hg _ => ?_) same_vs
  rw [Below.heap_setCell _ _ _ _ hg, Below.heap_setCell _ _ _ _ hg, Below.heap_setCell _ _ _ _ hg]
set_option maxHeartbeats 2000000 in
set_option maxRecDepth 100000 in
theorem open_any {Kp : Nat → Prop} {base eb : Nat} {W : World} {d : Gp.Dr} {p : Pl} {q : Bu} {S C : List UInt8} (h : EAt Kp base W eb d p q S C) (r1 : 1 ≤ d.room) (r7 : d.room ≤ 7) :
    Calls Tryz.prog 105 #[.pointer (some ⟨eb, 0, none⟩)] W fun e w' => EPost Kp base eb W (Gp.open_ d) S C e w' := by
  obtain ⟨d3, hd3⟩ : ∃ d3 : Gp.Dr, d3 = { d with phase := 2, step := -1, tries := 0 } := ⟨_, rfl⟩
  have h1 : Hid (EAt Kp base (((W.setCell ⟨eb, 1, none⟩ (.int .i64 2)).setCell ⟨eb, 3, none⟩ (.int .i64 (-1))).setCell ⟨eb, 16, none⟩ (.int .i64 0)) eb d3 p q S C) := by
    subst hd3
    exact ((h.upd 1 (.int .i64 2) { d with phase := 2 } rfl rfl rfl rfl rfl).upd 3 (.int .i64 (-1)) { d with phase := 2, step := -1 } rfl rfl rfl rfl rfl).upd 16 (.int .i64 0) { d with phase := 2, step := -1, tries := 0 } rfl rfl rfl rfl rfl
  have f1 : Hid (Fr base eb W (((W.setCell ⟨eb, 1, none⟩ (.int .i64 2)).setCell ⟨eb, 3, none⟩ (.int .i64 (-1))).setCell ⟨eb, 16, none⟩ (.int .i64 0))) := ((Fr.set h.new _ _).trans (Fr.set h.new _ _)).trans (Fr.set h.new _ _)
  have eB : Wn.begin_ 8 d.room 1 = (⟨8, d.room, 1, []⟩, 0) := if_pos ⟨by omega, by omega, r1, by omega, by omega, by omega⟩
  have HB : Hid (∀ W1, EAt Kp base W1 eb d3 p q S C → Calls Tryz.prog 125 #[.int .i64 8, .int .i64 d.room, .int .i64 1] W1 fun e w' => e = .returned (.tuple #[.agg #[.int .i64 8, .int .i64 d.room, .int .i64 1, .slice none 0 0], .int .i64 0]) ∧ Hid (EAt Kp base w' eb d3 p q S C) ∧ Hid (Fr base eb W1 w')) := fun W1 hh => by
    have := begin_any 8 d.room 1 W1
    unfold BPost at this
    rw [eB] at this
    exact this.mono fun e w' ⟨x1, x2⟩ => ⟨x1, hh.below x2, Fr.of x2 hh.lt⟩
  have c1 : W.cell? ⟨eb, 1, none⟩ = some (.int .i64 d.phase) := h.bk.cell 1
  have c3 : W.cell? ⟨eb, 3, none⟩ = some (.int .i64 d.step) := h.bk.cell 3
  have c16 : W.cell? ⟨eb, 16, none⟩ = some (.int .i64 d.tries) := h.bk.cell 16
  have fz := h.bk.thaw
  have hO : Gp.open_ d = { d3 with win := ⟨8, d.room, 1, []⟩ } := by unfold Gp.open_; rw [eB, hd3]
  have hrm : d3.room = d.room := by rw [hd3]
  rw [hO]
  generalize d.room = rm at *
  generalize d.phase = ph at *
  generalize d.step = st at *
  generalize d.tries = tr at *
  clear hd3 hO eB r1 r7 h
  go_enter Tryz.func105, Tryz.ntmps105
  go_upto_region 1 with fail
  generalize World.setCell _ _ _ = w1 at *
  clear c1 c3 c16 fz
  have c5 : w1.cell? ⟨eb, 5, none⟩ = some (.int .i64 rm) := by rw [← hrm]; exact h1.out.bk.cell 5
  go_wp2_with (go_at_call 125; refine (HB.out _ h1.out).mono ?_; rintro e w2 ⟨rfl, h2, f2⟩; have e6 : w2.cell? ⟨eb, 6, none⟩ = some (.int .i64 d3.win.md) := h2.out.bk.cell 6; have e7 : w2.cell? ⟨eb, 7, none⟩ = some (.int .i64 d3.win.sz) := h2.out.bk.cell 7; have e8 : w2.cell? ⟨eb, 8, none⟩ = some (.int .i64 d3.win.bs) := h2.out.bk.cell 8; have e9 : w2.cell? ⟨eb, 9, none⟩ = some (.slice p.w d3.win.l.length p.wc) := h2.out.bk.cell 9; have fz := h2.out.bk.thaw)
  go_end0
  have hw := h2.out.setW ⟨8, rm, 1, []⟩ none 0 TRow.nil (Nat.le_refl _)
  exact ⟨rfl, ⟨_, _, hw.1⟩, (f1.out.trans f2.out).trans hw.2⟩
end Go.Proofs.YtfiffbohhhehkaaGreat

namespace Go.Proofs.YtfiffbohhhehkaaGreat
open Go.RowKit
set_option maxHeartbeats 1000000 in
set_option maxRecDepth 100000 in
theorem openingStep_ty (ty hi lo sz : Int) (D : ByteArray) (w : World) (h : (ty != 0) = true) :
    Calls Tryz.prog 78 #[.agg #[.int .i64 ty, .int .i64 hi, .int .i64 lo, .int .i64 sz, .string D]] w fun e w' => e = .returned (.tuple #[.int .i64 0, .bool false]) ∧ Below w.heap.size w w' := by
  go_enter Tryz.func78, Tryz.ntmps78
  go_wp2
  go_ret2
  exact ⟨rfl, Rg.al1 _ _⟩
set_option maxHeartbeats 2000000 in
set_option maxRecDepth 100000 in
theorem openingStep_go (hi lo sz : Int) (D : ByteArray) (w : World) (K : Nat) (hK : K ≤ 3) (hno : ∀ j : Nat, j < K → ¬ hi = Gp.hiOf (j : Int)) (hyes : K < 3 → hi = Gp.hiOf (K : Int)) :
    Calls Tryz.prog 78 #[.agg #[.int .i64 0, .int .i64 hi, .int .i64 lo, .int .i64 sz, .string D]] w fun e w' => e = .returned (if K < 3 then .tuple #[.int .i64 (K : Int), .bool true] else .tuple #[.int .i64 0, .bool false]) ∧ Below w.heap.size w w' := by
  have k0 : Hid (Rg.Bk w.heap.size [.int .i64 0, .int .i64 hi, .int .i64 lo, .int .i64 sz, .string D] 80 (w.alloc (.cells #[.int .i64 0, .int .i64 hi, .int .i64 lo, .int .i64 sz, .string D] 80))) := Rg.Bk.new rfl
  have b0 := Rg.hid (Rg.al1 w (.cells #[.int .i64 0, .int .i64 hi, .int .i64 lo, .int .i64 sz, .string D] 80))
  replace hno := Rg.hid hno
  replace hyes := Rg.hid hyes
  obtain ⟨R, hR⟩ : ∃ R : Value, R = (if K < 3 then .tuple #[.int .i64 (K : Int), .bool true] else .tuple #[.int .i64 0, .bool false]) := ⟨_, rfl⟩
  rw [← hR]
  replace hR := Rg.hid hR
  go_enter Tryz.func78, Tryz.ntmps78
  go_upto_region 3 with fail
  generalize World.alloc _ _ = w1 at *
  obtain ⟨B, hB⟩ : ∃ B, B = w.heap.size := ⟨_, rfl⟩
  rw [← hB] at k0 ⊢
  replace hB := Rg.hid hB
  go_wp2
  go_loopw [8] (fun v wr => ∃ k : Nat, v = .int .i64 (k : Int) ∧ k ≤ K ∧ Hid (Rg.Bk B [.int .i64 0, .int .i64 hi, .int .i64 lo, .int .i64 sz, .string D] 80 wr) ∧ Hid (Below w.heap.size w wr)) (fun v _ => 3 - (intOf v).toNat)
  case atStart => exact ⟨0, rfl, Nat.zero_le _, k0, b0⟩
  case round =>
    obtain ⟨k, rfl, hk, kr, br⟩ := hrel
    have c1 : wr.cell? ⟨B, 1, none⟩ = some (.int .i64 hi) := kr.out.cell 1
    have HH : Hid (∀ W, Calls Tryz.prog 55 #[.int .i64 (k : Int)] W fun e w' => e = .returned (.int .i64 (Gp.hiOf (k : Int))) ∧ w' = W) := openingHigh_any (k : Int)
    by_cases hk3 : k < 3
    · have d1 : decide ((k : Int) < 3) = true := by simp; omega
      have d1' : k < 3 := hk3
      by_cases hkK : k = K
      · subst hkK
        have hh := hyes.out hk3
        rw [← hh] at HH
        have hR2 : R = .tuple #[.int .i64 (k : Int), .bool true] := by rw [hR.out, if_pos hk3]
        subst hR2
        clear hno hyes hh hR k0 b0
        go_upto_region 6 with fail
        go_quiet ((go_at_call 55; exact Calls.quiet_of_same (HH.out _)))
        go_wp2
        go_ret2
        exact ⟨rfl, Rg.drewN br.out _⟩
      · have hh := hno.out k (by omega)
        generalize Gp.hiOf (k : Int) = H at HH hh
        have e1 : (hi == H) = false := by simpa using hh
        clear hno hyes k0 b0
        go_upto_region 6 with fail
        go_quiet ((go_at_call 55; exact Calls.quiet_of_same (HH.out _)))
        go_wp2
        go_roundw
        case rel => exact ⟨k + 1, by go_num, by omega, kr.out.below (Rg.drewN (Below.refl _ _) _) kr.out.lt, Rg.drewN br.out _⟩
        case measure => simp [intOf]; omega
    · have d1 : decide ((k : Int) < 3) = false := by simp; omega
      have hR2 : R = .tuple #[.int .i64 0, .bool false] := by rw [hR.out, if_neg (by omega)]
      subst hR2
      clear hno hyes hR k0 b0
      go_wp2
      go_ret2
      exact ⟨rfl, br.out⟩
/-- which step's opening packet it is -/
def Gp.stepOf (ty hi : Int) : Value := if ty = 0 ∧ hi = 7 then .tuple #[.int .i64 0, .bool true] else if ty = 0 ∧ hi = 6 then .tuple #[.int .i64 1, .bool true] else if ty = 0 ∧ hi = 5 then .tuple #[.int .i64 2, .bool true] else .tuple #[.int .i64 0, .bool false]
theorem openingStep_any (ty hi lo sz : Int) (D : ByteArray) (w : World) :
    Calls Tryz.prog 78 #[.agg #[.int .i64 ty, .int .i64 hi, .int .i64 lo, .int .i64 sz, .string D]] w fun e w' => e = .returned (Gp.stepOf ty hi) ∧ Below w.heap.size w w' := by
  have e0 : Gp.hiOf ((0 : Nat) : Int) = 7 := rfl
  have e1 : Gp.hiOf ((1 : Nat) : Int) = 6 := rfl
  have e2 : Gp.hiOf ((2 : Nat) : Int) = 5 := rfl
  unfold Gp.stepOf
  by_cases ht : ty = 0
  · subst ht
    by_cases h7 : hi = 7
    · rw [if_pos ⟨rfl, h7⟩]
      exact openingStep_go hi lo sz D w 0 (by omega) (fun j hj => by omega) (fun _ => by rw [e0]; exact h7)
    rw [if_neg (fun x => h7 x.2)]
    by_cases h6 : hi = 6
    · rw [if_pos ⟨rfl, h6⟩]
      exact openingStep_go hi lo sz D w 1 (by omega) (fun j hj => by obtain rfl : j = 0 := by omega
                                                                     rw [e0]; exact h7) (fun _ => by rw [e1]; exact h6)
    rw [if_neg (fun x => h6 x.2)]
    by_cases h5 : hi = 5
    · rw [if_pos ⟨rfl, h5⟩]
      exact openingStep_go hi lo sz D w 2 (by omega) (fun j hj => by rcases (by omega : j = 0 ∨ j = 1) with rfl | rfl; rw [e0]; exact h7; rw [e1]; exact h6) (fun _ => by rw [e2]; exact h5)
    rw [if_neg (fun x => h5 x.2)]
    exact openingStep_go hi lo sz D w 3 (by omega) (fun j hj => by rcases (by omega : j = 0 ∨ j = 1 ∨ j = 2) with rfl | rfl | rfl; rw [e0]; exact h7; rw [e1]; exact h6; rw [e2]; exact h5) (fun h => by omega)
  · rw [if_neg (fun x => ht x.1), if_neg (fun x => ht x.1), if_neg (fun x => ht x.1)]
    exact openingStep_ty ty hi lo sz D w (by simp [ht])
end Go.Proofs.YtfiffbohhhehkaaGreat

namespace Go.Proofs.YtfiffbohhhehkaaGreat
open Go.RowKit
set_option maxHeartbeats 2000000 in
set_option maxRecDepth 100000 in
theorem agree_size {Kp : Nat → Prop} {base eb : Nat} {W : World} {d : Gp.Dr} {p : Pl} {q : Bu} {S C : List UInt8} (h : EAt Kp base W eb d p q S C) (k : Nat) (Z : Int) (hst : d.step = 1) (Post : Ending → World → Prop) (Y : Int) (y0' : IntKind.i64.wrap ((32 : Int) * 2 ^ k) = Y) (y2 : min d.size Y = Z) (k8 : k < 64)
    (HS : Hid (∀ W1, EAt Kp base W1 eb { d with size := Z, step := 2, tries := 0 } p q S C → Fr base eb W W1 → Calls Tryz.prog 26 #[.pointer (some ⟨eb, 0, none⟩), .int .i64 2] W1 fun e w' => e = .returned (.tuple #[]) ∧ Post (.returned (.tuple #[])) w')) :
    Calls Tryz.prog 104 #[.pointer (some ⟨eb, 0, none⟩), .int .i64 (k : Int)] W Post := by
  have c3 : W.cell? ⟨eb, 3, none⟩ = some (.int .i64 1) := by rw [← hst]; exact h.bk.cell 3
  have c4 : W.cell? ⟨eb, 4, none⟩ = some (.int .i64 d.size) := h.bk.cell 4
  have fz := h.bk.thaw
  have h2 := Rg.hid (h.upd 4 (.int .i64 Z) { d with size := Z } rfl rfl rfl rfl rfl).drew
  have f2 : Hid (Fr base eb W (W.setCell ⟨eb, 4, none⟩ (.int .i64 Z)).drew) := (Fr.set h.new _ _).drew
  clear h
  generalize d.size = sz at *
  go_enter Tryz.func104, Tryz.ntmps104
  go_upto_region 2 with fail
  go_region
  go_upto_region 4 with fail
  generalize World.drew _ = w1 at *
  clear c3 c4 fz y0' y2
  have c3 : w1.cell? ⟨eb, 3, none⟩ = some (.int .i64 1) := by rw [← hst]; exact h2.out.bk.cell 3
  have c16 : w1.cell? ⟨eb, 16, none⟩ = some (.int .i64 d.tries) := h2.out.bk.cell 16
  have fz := h2.out.bk.thaw
  have h4 := Rg.hid ((h2.out.upd 3 (.int .i64 2) { d with size := Z, step := 2 } rfl rfl rfl rfl rfl).upd 16 (.int .i64 0) { d with size := Z, step := 2, tries := 0 } rfl rfl rfl rfl rfl)
  have f4 := Rg.hid ((f2.out.trans (Fr.set h2.out.new 3 (.int .i64 2))).trans (Fr.set h2.out.new 16 (.int .i64 0)))
  clear h2 f2
  go_upto_region 7 with fail
  generalize World.setCell _ _ _ = w2 at *
  clear c3 c16 fz
  have c3 : w2.cell? ⟨eb, 3, none⟩ = some (.int .i64 2) := h4.out.bk.cell 3
  go_wp2_with (go_at_call 26; refine (HS.out _ h4.out f4.out).mono ?_; rintro e w3 ⟨rfl, hp⟩)
  go_end0
  exact hp
set_option maxHeartbeats 2000000 in
set_option maxRecDepth 100000 in
theorem agree_zero (eb : Nat) (st : Int) (W : World) (c3 : W.cell? ⟨eb, 3, none⟩ = some (.int .i64 st)) (h1 : (st == 1) = false) :
    Calls Tryz.prog 104 #[.pointer (some ⟨eb, 0, none⟩), .int .i64 0] W fun e w' => e = .returned (.tuple #[]) ∧ w' = W := by
  go_enter Tryz.func104, Tryz.ntmps104
  go_wp2
  exact bodyPost_ret (v := .tuple #[]) (by simp [results, Tryz.results104, go_sem]) rfl ⟨rfl, rfl⟩
set_option maxHeartbeats 2000000 in
set_option maxRecDepth 100000 in
theorem agree_first {Kp : Nat → Prop} {base eb : Nat} {W : World} {d : Gp.Dr} {p : Pl} {q : Bu} {S C : List UInt8} (h : EAt Kp base W eb d p q S C) (lo Z : Int) (hst : d.step = 0) (Post : Ending → World → Prop) (y1 : (lo == 0) = false) (y2 : min d.room lo = Z)
    (HS : Hid (∀ W1, EAt Kp base W1 eb { d with room := Z, step := 1, tries := 0 } p q S C → Fr base eb W W1 → Calls Tryz.prog 26 #[.pointer (some ⟨eb, 0, none⟩), .int .i64 1] W1 fun e w' => e = .returned (.tuple #[]) ∧ Post (.returned (.tuple #[])) w')) :
    Calls Tryz.prog 104 #[.pointer (some ⟨eb, 0, none⟩), .int .i64 lo] W Post := by
  have c3 : W.cell? ⟨eb, 3, none⟩ = some (.int .i64 0) := by rw [← hst]; exact h.bk.cell 3
  have c5 : W.cell? ⟨eb, 5, none⟩ = some (.int .i64 d.room) := h.bk.cell 5
  have fz := h.bk.thaw
  have h2 := Rg.hid (h.upd 5 (.int .i64 Z) { d with room := Z } rfl rfl rfl rfl rfl)
  have f2 : Hid (Fr base eb W (W.setCell ⟨eb, 5, none⟩ (.int .i64 Z))) := Fr.set h.new _ _
  clear h
  generalize d.room = rm at *
  go_enter Tryz.func104, Tryz.ntmps104
  go_upto_region 4 with fail
  generalize World.setCell _ _ _ = w1 at *
  clear c3 c5 fz y1 y2
  have c3 : w1.cell? ⟨eb, 3, none⟩ = some (.int .i64 0) := by rw [← hst]; exact h2.out.bk.cell 3
  have c16 : w1.cell? ⟨eb, 16, none⟩ = some (.int .i64 d.tries) := h2.out.bk.cell 16
  have fz := h2.out.bk.thaw
  have h4 := Rg.hid ((h2.out.upd 3 (.int .i64 1) { d with room := Z, step := 1 } rfl rfl rfl rfl rfl).upd 16 (.int .i64 0) { d with room := Z, step := 1, tries := 0 } rfl rfl rfl rfl rfl)
  have f4 := Rg.hid ((f2.out.trans (Fr.set h2.out.new 3 (.int .i64 1))).trans (Fr.set h2.out.new 16 (.int .i64 0)))
  clear h2 f2
  go_upto_region 7 with fail
  generalize World.setCell _ _ _ = w2 at *
  clear c3 c16 fz
  have c3 : w2.cell? ⟨eb, 3, none⟩ = some (.int .i64 1) := h4.out.bk.cell 3
  go_wp2_with (go_at_call 26; refine (HS.out _ h4.out f4.out).mono ?_; rintro e w3 ⟨rfl, hp⟩)
  go_end0
  exact hp
set_option maxHeartbeats 2000000 in
set_option maxRecDepth 100000 in
theorem agree_last {Kp : Nat → Prop} {base eb : Nat} {W : World} {d : Gp.Dr} {p : Pl} {q : Bu} {S C : List UInt8} (h : EAt Kp base W eb d p q S C) (lo Z : Int) (hst : d.step = 2) (Post : Ending → World → Prop) (y1 : (lo == 0) = false) (y2 : min d.room lo = Z)
    (HS : Hid (∀ W1, EAt Kp base W1 eb { d with room := Z } p q S C → Fr base eb W W1 → Calls Tryz.prog 105 #[.pointer (some ⟨eb, 0, none⟩)] W1 fun e w' => e = .returned (.tuple #[]) ∧ Post (.returned (.tuple #[])) w')) :
    Calls Tryz.prog 104 #[.pointer (some ⟨eb, 0, none⟩), .int .i64 lo] W Post := by
  have c3 : W.cell? ⟨eb, 3, none⟩ = some (.int .i64 2) := by rw [← hst]; exact h.bk.cell 3
  have c5 : W.cell? ⟨eb, 5, none⟩ = some (.int .i64 d.room) := h.bk.cell 5
  have fz := h.bk.thaw
  have h2 := Rg.hid (h.upd 5 (.int .i64 Z) { d with room := Z } rfl rfl rfl rfl rfl)
  have f2 : Hid (Fr base eb W (W.setCell ⟨eb, 5, none⟩ (.int .i64 Z))) := Fr.set h.new _ _
  clear h
  generalize d.room = rm at *
  go_enter Tryz.func104, Tryz.ntmps104
  go_upto_region 4 with fail
  generalize World.setCell _ _ _ = w1 at *
  clear c3 c5 fz y1 y2
  have c3 : w1.cell? ⟨eb, 3, none⟩ = some (.int .i64 2) := by rw [← hst]; exact h2.out.bk.cell 3
  go_wp2_with (go_at_call 105; refine (HS.out _ h2.out f2.out).mono ?_; rintro e w3 ⟨rfl, hp⟩)
  exact bodyPost_ret (v := .tuple #[]) (by simp [results, Tryz.results104, go_sem]) rfl hp
/-- what agree comes to -/
def Gp.agreed (d : Gp.Dr) (low : Int) : Gp.Dr × List UInt8 :=
  if d.step = 1 then ({ d with size := min d.size (32 * 2 ^ low.toNat), step := 2, tries := 0 }, Gp.opening { d with size := min d.size (32 * 2 ^ low.toNat), step := 2, tries := 0 } 2)
  else if low < 1 then (d, [])
  else if d.step = 2 then (Gp.open_ { d with room := min d.room low }, [])
  else ({ d with room := min d.room low, step := 1, tries := 0 }, Gp.opening { d with room := min d.room low, step := 1, tries := 0 } 1)
theorem EPost.go {Kp : Nat → Prop} {base eb : Nat} {W W1 : World} {d : Gp.Dr} {S C : List UInt8} {F : Nat} {args : Array Value} (f : Fr base eb W W1) (h : Calls Tryz.prog F args W1 fun e w' => EPost Kp base eb W1 d S C e w') : Calls Tryz.prog F args W1 fun e w' => e = .returned (.tuple #[]) ∧ EPost Kp base eb W d S C (.returned (.tuple #[])) w' := h.mono fun _ _ hp => ⟨hp.1, rfl, hp.2.1, f.trans hp.2.2⟩
theorem agree_any {Kp : Nat → Prop} {base eb : Nat} {W : World} {d : Gp.Dr} {p : Pl} {q : Bu} {S C : List UInt8} (h : EAt Kp base W eb d p q S C) (low : Int) (l0 : 0 ≤ low) (l7 : low ≤ 7) (hz : Gf.code d.size ≠ 0) (r1 : 1 ≤ d.room) (r7 : d.room ≤ 7) (s0 : 0 ≤ d.step) (s2 : d.step ≤ 2) (hlen : S.length + 6 ≤ 140737488355328) :
    Calls Tryz.prog 104 #[.pointer (some ⟨eb, 0, none⟩), .int .i64 low] W fun e w' => EPost Kp base eb W (Gp.agreed d low).1 (S ++ (Gp.agreed d low).2) C e w' := by
  unfold Gp.agreed
  by_cases hst : d.step = 1
  · rw [if_pos hst]
    obtain ⟨k, rfl⟩ : ∃ k : Nat, low = (k : Int) := ⟨low.toNat, by omega⟩
    have hz2 := Gp.code_min hz l0 l7
    rw [show (k : Int).toNat = k from rfl] at hz2 ⊢
    refine agree_size h k _ hst _ ((32 * 2 ^ k : Nat) : Int) (by have := Gf.shl32 (k := k) (by omega); rw [IntKind.wrap_i64]; unfold wrap64 at this; omega) ?_ (by omega) fun W1 hh f => EPost.go f (sayOpening_any hh 2 (by omega) (by omega) hz2 r1 r7 hlen)
    push_cast
    rfl
  · rw [if_neg hst]
    by_cases hl : low < 1
    · rw [if_pos hl]
      obtain rfl : low = 0 := by omega
      refine (agree_zero eb d.step W (h.bk.cell 3) (by simp [hst])).mono ?_
      rintro e w' ⟨rfl, rfl⟩
      rw [List.append_nil]
      exact ⟨rfl, ⟨p, q, h⟩, Fr.refl _ _ _⟩
    · rw [if_neg hl]
      have hroom : 1 ≤ min d.room low ∧ min d.room low ≤ 7 := by
        rcases Int.le_total d.room low with c | c
        · rw [Int.min_eq_left c]; omega
        · rw [Int.min_eq_right c]; omega
      by_cases h2 : d.step = 2
      · rw [if_pos h2]
        dsimp only
        rw [List.append_nil]
        exact agree_last h low _ h2 _ (by simp; omega) rfl fun W1 hh f => EPost.go f (open_any hh hroom.1 hroom.2)
      · rw [if_neg h2]
        exact agree_first h low _ (by omega) _ (by simp; omega) rfl fun W1 hh f => EPost.go f (sayOpening_any hh 1 (by omega) (by omega) hz hroom.1 hroom.2 hlen)
end Go.Proofs.YtfiffbohhhehkaaGreat
