/-
  Walks of layer 15: tick, Tick. Walks of layer 15: the closures of Close, Send, Feed. Walks of layer 15: Close, Send.
-/
import Derived.Test.YtfiffbohhhehkaaGreatBuEndH
namespace Go.Proofs.YtfiffbohhhehkaaGreat
open Go.RowKit
/-- the drive behind what Tick drops -/
def Gp.dropped (d : Gp.Dr) : Gp.Dr := if 2 ≤ d.wait then { d with wait := 0 } else { d with at_ := d.at_ + d.buf.length, buf := [], wait := 0 }
/-- what a tick comes to, from there -/
def Gp.tickOf (d : Gp.Dr) : Gp.Dr × List UInt8 :=
  if d.phase = 1 ∨ d.phase = 3 then
    (if 12 < d.tries + 1 then (if d.phase = 3 then ({ d with tries := d.tries + 1, phase := 4, step := 0 }, []) else ({ d with tries := d.tries + 1, phase := 5 }, []))
    else if d.phase = 3 then ({ d with tries := d.tries + 1 }, Gp.ctrl 1 0) else ({ d with tries := d.tries + 1 }, Gp.opening { d with tries := d.tries + 1 } d.step))
  else if d.phase = 2 then Gp.ticked d else (d, [])
theorem tick_of (d : Gp.Dr) : Gp.tick d = Gp.tickOf (Gp.dropped (Gp.own d)) := rfl
theorem own_self {d : Gp.Dr} (h : d.took = []) : Gp.own d = d := by unfold Gp.own; rw [← h]
theorem tickM_any {Kp : Nat → Prop} {base eb : Nat} {W : World} {d : Gp.Dr} {p : Pl} {q : Bu} {S C : List UInt8} (h : EAt Kp base W eb d p q S C) (hr : Gp.right d) (ht : d.took = []) (hm : d.at_ + d.buf.length ≤ 1099511627776) (hlen : S.length + 40000 ≤ 140737488355328) :
    Calls Tryz.prog 39 #[.pointer (some ⟨eb, 0, none⟩)] W fun e w' => EPost Kp base eb W (Gp.tick d).1 (S ++ (Gp.tick d).2) C e w' := by
  rw [tick_of, own_self ht]
  have hp := hr.2
  obtain ⟨b1, b2, b3, b4, b5, b6, b7, b8, b9, b10, b11, b12, b13, b14, b15⟩ := hr.1
  have h15 := phase_rng hr
  obtain ⟨d1, hd1⟩ : ∃ d1, d1 = Gp.dropped d := ⟨_, rfl⟩
  rw [← hd1]
  have key : d1.phase = d.phase ∧ d1.step = d.step ∧ d1.tries = d.tries ∧ d1.size = d.size ∧ d1.room = d.room ∧ Gp.base d1 ∧ (d.phase = 2 → Gp.runs d1) := by
    rw [hd1]
    unfold Gp.dropped
    split
    · exact ⟨rfl, rfl, rfl, rfl, rfl, ⟨b1, b2, b3, b4, b5, b6, b7, b8, b9, by show (0 : Int) ≤ 0; omega, by show (0 : Int) ≤ 3; omega, b12, b13, b14, b15⟩, fun h2 => by
        rcases hp with ⟨h, _⟩ | ⟨_, h⟩ | h | h | h
        · omega
        · exact h
        all_goals omega⟩
    · exact ⟨rfl, rfl, rfl, rfl, rfl, ⟨b1, b2, b3, b4, b5, b6, b7, by show 0 ≤ d.at_ + _; omega, hm, by show (0 : Int) ≤ 0; omega, by show (0 : Int) ≤ 3; omega, b12, b13, b14, b15⟩, fun h2 => by
        rcases hp with ⟨h, _⟩ | ⟨_, h⟩ | h | h | h
        · omega
        · exact h
        all_goals omega⟩
  obtain ⟨k1, k2, k3, k4, k5, kb, kr⟩ := key
  obtain ⟨c1, c2, c3, c4, c5, c6, c7, c8, c9, c10, c11, c12, c13, c14, c15⟩ := kb
  have hst : d.phase = 1 → 0 ≤ d.step ∧ d.step ≤ 2 := fun h1 => by
    rcases hp with ⟨_, s0, s2, _⟩ | ⟨h, _⟩ | h | h | h
    · exact ⟨s0, s2⟩
    all_goals omega
  obtain ⟨d2, hd2⟩ : ∃ d2 : Gp.Dr, d2 = if 12 < d1.tries + 1 then { d1 with tries := d1.tries + 1, phase := 5 } else { d1 with tries := d1.tries + 1 } := ⟨_, rfl⟩
  have HM : Hid (d.phase = 1 ∨ d.phase = 3 → ∀ W1 p1 q1, EAt Kp base W1 eb d1 p1 q1 S C → Calls Tryz.prog 70 #[.pointer (some ⟨eb, 0, none⟩)] W1 fun e w' => e = .returned (.bool (decide (¬ 12 < d1.tries + 1))) ∧ Hid (ES Kp base w' eb d2 S C) ∧ Hid (Fr base eb W1 w')) := fun _ W1 p1 q1 h1 => by
    rw [hd2]
    by_cases hx : 12 < d1.tries + 1
    · rw [if_pos hx, show decide (¬ 12 < d1.tries + 1) = false by simpa using hx]
      exact mayTry_n h1 c12 c13 hx
    · rw [if_neg hx, show decide (¬ 12 < d1.tries + 1) = true by simpa using hx]
      exact mayTry_y h1 c12 c13 hx
  have HO : Hid (d.phase = 1 → decide (¬ 12 < d1.tries + 1) = true → ∀ W1 p1 q1, EAt Kp base W1 eb d2 p1 q1 S C → Fr base eb W W1 → Calls Tryz.prog 26 #[.pointer (some ⟨eb, 0, none⟩), .int .i64 d2.step] W1 fun e w' => e = .returned (.tuple #[]) ∧ EPost Kp base eb W (Gp.tickOf d1).1 (S ++ (Gp.tickOf d1).2) C (.returned (.tuple #[])) w') := fun h1 hx W1 p1 q1 hh f => by
    have hx : ¬ 12 < d1.tries + 1 := of_decide_eq_true hx
    have hs := hst h1
    rw [hd2, if_neg hx] at hh ⊢
    have e : Gp.tickOf d1 = ({ d1 with tries := d1.tries + 1 }, Gp.opening { d1 with tries := d1.tries + 1 } d1.step) := by
      unfold Gp.tickOf
      rw [if_pos (by omega), if_neg hx, if_neg (by omega)]
    rw [e]
    exact EPost.go f (sayOpening_any hh d1.step (by omega) (by omega) c2 c4 c5 (by omega))
  have HF : Hid (d.phase = 1 → decide (¬ 12 < d1.tries + 1) = false → ∀ W1, ES Kp base W1 eb d2 S C → Fr base eb W W1 → EPost Kp base eb W (Gp.tickOf d1).1 (S ++ (Gp.tickOf d1).2) C (.returned (.tuple #[])) W1) := fun h1 hx W1 hh f => by
    have hx : 12 < d1.tries + 1 := by simpa using hx
    rw [hd2, if_pos hx] at hh
    have e : Gp.tickOf d1 = ({ d1 with tries := d1.tries + 1, phase := 5 }, []) := by
      unfold Gp.tickOf
      rw [if_pos (by omega), if_pos hx, if_neg (by omega)]
    rw [e]
    dsimp only
    rw [List.append_nil]
    exact ⟨rfl, hh, f⟩
  have HC : Hid (d.phase = 3 → decide (¬ 12 < d1.tries + 1) = true → ∀ W1 p1 q1, EAt Kp base W1 eb d2 p1 q1 S C → Fr base eb W W1 → Calls Tryz.prog 46 #[.pointer (some ⟨eb, 0, none⟩)] W1 fun e w' => e = .returned (.tuple #[]) ∧ EPost Kp base eb W (Gp.tickOf d1).1 (S ++ (Gp.tickOf d1).2) C (.returned (.tuple #[])) w') := fun h1 hx W1 p1 q1 hh f => by
    have hx : ¬ 12 < d1.tries + 1 := of_decide_eq_true hx
    rw [hd2, if_neg hx] at hh
    have e : Gp.tickOf d1 = ({ d1 with tries := d1.tries + 1 }, Gp.ctrl 1 0) := by
      unfold Gp.tickOf
      rw [if_pos (by omega), if_neg hx, if_pos (by omega)]
    rw [e]
    exact EPost.go f (sayClose_any hh (by omega))
  have HX : Hid (d.phase = 3 → decide (¬ 12 < d1.tries + 1) = false → ∀ W1, ES Kp base W1 eb { d2 with phase := 4, step := 0 } S C → Fr base eb W W1 → EPost Kp base eb W (Gp.tickOf d1).1 (S ++ (Gp.tickOf d1).2) C (.returned (.tuple #[])) W1) := fun h1 hx W1 hh f => by
    have hx : 12 < d1.tries + 1 := by simpa using hx
    rw [hd2, if_pos hx] at hh
    have e : Gp.tickOf d1 = ({ d1 with tries := d1.tries + 1, phase := 4, step := 0 }, []) := by
      unfold Gp.tickOf
      rw [if_pos (by omega), if_pos hx, if_pos (by omega)]
    rw [e]
    dsimp only
    rw [List.append_nil]
    exact ⟨rfl, hh, f⟩
  have HR : Hid (d.phase = 2 → ∀ W1 p1 q1, EAt Kp base W1 eb d1 p1 q1 S C → Fr base eb W W1 → Calls Tryz.prog 71 #[.pointer (some ⟨eb, 0, none⟩)] W1 fun e w' => e = .returned (.tuple #[]) ∧ EPost Kp base eb W (Gp.tickOf d1).1 (S ++ (Gp.tickOf d1).2) C (.returned (.tuple #[])) w') := fun h2 W1 p1 q1 hh f => by
    have e : Gp.tickOf d1 = Gp.ticked d1 := by
      unfold Gp.tickOf
      rw [if_neg (by omega), if_pos (by omega)]
    rw [e]
    exact EPost.go f (tickRunning_any hh ⟨c1, c2, c3, c4, c5, c6, c7, c8, c9, c10, c11, c12, c13, c14, c15⟩ (kr h2) hlen)
  have HN : Hid (d.phase = 4 ∨ d.phase = 5 → ∀ W1, ES Kp base W1 eb d1 S C → Fr base eb W W1 → EPost Kp base eb W (Gp.tickOf d1).1 (S ++ (Gp.tickOf d1).2) C (.returned (.tuple #[])) W1) := fun h2 W1 hh f => by
    have e : Gp.tickOf d1 = (d1, []) := by
      unfold Gp.tickOf
      rw [if_neg (by omega), if_neg (by omega)]
    rw [e]
    dsimp only
    rw [List.append_nil]
    exact ⟨rfl, hh, f⟩
  have ha := Gp.and2 b10 b11
  by_cases hw : 2 ≤ d.wait
  · rw [if_pos hw] at ha
    exact tick_kept h d1 d2 _ k1 _ HM HO HF HC HX HR HN h15 2 ha (by decide) (by rw [hd1]; exact if_pos hw)
  · rw [if_neg hw] at ha
    refine tick_dropped h d1 d2 _ k1 _ HM HO HF HC HX HR HN h15 0 ha (by decide) { d with buf := d.buf.drop d.buf.length, at_ := d.at_ + d.buf.length } (by rw [hd1, List.drop_length]; exact if_neg hw) d.buf.length (size_bytes _) (EPost.parts (cut_any h d.buf.length (Nat.le_refl _) b8 hm))
theorem tick_queue (d : Gp.Dr) : (Gp.tick d).1.queue = d.queue := by
  rw [tick_of]
  have e : (Gp.dropped (Gp.own d)).queue = d.queue := by unfold Gp.dropped; split <;> rfl
  rw [← e]
  generalize Gp.dropped (Gp.own d) = x
  unfold Gp.tickOf Gp.ticked
  repeat' split
  all_goals rfl
set_option maxHeartbeats 4000000 in
set_option maxRecDepth 100000 in
theorem gtick_any {Kp : Nat → Prop} (d : Gp.Dr) (p : Pl) (w : World) (hd : DR Kp w d p) (hr : Gp.right d) (hm : d.at_ + d.buf.length ≤ 1099511627776) (hK : Hid (∀ b, w.heap.size ≤ b → Kp b)) :
    Calls Tryz.prog 14 #[DV d p] w fun e w' => XPost Kp w (Gp.tick d) e w' := by
  obtain ⟨CS, hCS⟩ : ∃ CS : Array Value, CS = (DC d p).toArray := ⟨_, rfl⟩
  have eDV : DV d p = .agg CS := by rw [hCS]; rfl
  have hin : (Tryz.prog.info? 29).map (·.size) = some CS.size := by rw [hCS]; exact infoDr2
  have kB0 : Hid (Rg.Bk w.heap.size CS.toList 29 ((w.alloc (.cells CS 29)).alloc (.cells #[.int .i64 0, .int .i64 0, .bool false, .int .i64 0, .int .i64 0, .int .i64 0, .int .i64 0, .int .i64 0, .int .i64 0, .slice none 0 0, .int .i64 0, .slice none 0 0, .string ⟨#[]⟩, .int .i64 0, .slice none 0 0, .int .i64 0, .int .i64 0, .slice none 0 0] 29))) := (Rg.Bk.new rfl).old _
  have kR0 : Hid (Rg.Bk (w.heap.size + 1) [.int .i64 0, .int .i64 0, .bool false, .int .i64 0, .int .i64 0, .int .i64 0, .int .i64 0, .int .i64 0, .int .i64 0, .slice none 0 0, .int .i64 0, .slice none 0 0, .string ⟨#[]⟩, .int .i64 0, .slice none 0 0, .int .i64 0, .int .i64 0, .slice none 0 0] 29 ((w.alloc (.cells CS 29)).alloc (.cells #[.int .i64 0, .int .i64 0, .bool false, .int .i64 0, .int .i64 0, .int .i64 0, .int .i64 0, .int .i64 0, .int .i64 0, .slice none 0 0, .int .i64 0, .slice none 0 0, .string ⟨#[]⟩, .int .i64 0, .slice none 0 0, .int .i64 0, .int .i64 0, .slice none 0 0] 29))) := Rg.Bk.new (by simp)
  have hb0 := Rg.hid (Rg.al2 w (.cells CS 29) (.cells #[.int .i64 0, .int .i64 0, .bool false, .int .i64 0, .int .i64 0, .int .i64 0, .int .i64 0, .int .i64 0, .int .i64 0, .slice none 0 0, .int .i64 0, .slice none 0 0, .string ⟨#[]⟩, .int .i64 0, .slice none 0 0, .int .i64 0, .int .i64 0, .slice none 0 0] 29))
  obtain ⟨r, hrr⟩ : ∃ r, r = Gp.tick d := ⟨_, rfl⟩
  have HT : Hid (∀ W, Below w.heap.size w W → Calls Tryz.prog 30 #[.agg CS, .func (.func 39) #[] #[]] W fun e w' => ∃ eb, e = .returned (.pointer (some ⟨eb, 0, none⟩)) ∧ Hid (W.heap.size ≤ eb ∧ ES Kp w.heap.size w' eb r.1 r.2 [] ∧ Below w.heap.size W w' ∧ ∀ k C, Rg.Bk k C 29 W → Rg.Bk k C 29 w')) := by
    intro W hW
    rw [← eDV]
    refine through_tick d p w W hW hd hr (fun eb w' => Hid (W.heap.size ≤ eb ∧ ES Kp w.heap.size w' eb r.1 r.2 [] ∧ Below w.heap.size W w' ∧ ∀ k C, Rg.Bk k C 29 W → Rg.Bk k C 29 w')) fun W1 p1 q1 eb hE hB hle => ?_
    refine (tickM_any hE (Gp.right_own hr) rfl hm (by simp)).mono fun e w' hp => ⟨hp.1, hle, ?_, (hB.mono hW.size).trans hp.2.2.bel, fun k C h => ?_⟩
    · rw [hrr]; exact hp.2.1
    · exact hp.2.2.bk (h.below hB h.lt) (drive_ne hE (h.below hB h.lt)) (by decide)
  have hqr : Hid (r.1.queue.length ≤ 100000) := by
    rw [hrr]
    rw [tick_queue]; exact hd.ql
  replace hrr := Rg.hid hrr
  rw [eDV]
  clear hCS eDV hd hr
  go_enter Tryz.func14, Tryz.ntmps14
  go_upto_region 1 with fail
  generalize World.alloc _ _ = w1 at *
  obtain ⟨B, hB⟩ : ∃ B, B = w.heap.size := ⟨_, rfl⟩
  obtain ⟨R, hR⟩ : ∃ R, R = w.heap.size + 1 := ⟨_, rfl⟩
  rw [← hR] at kR0 ⊢
  rw [← hB] at kB0 ⊢
  have hRw : Hid (w.heap.size ≤ R) := by show _ ≤ _; omega
  replace hB := Rg.hid hB
  replace hR := Rg.hid hR
  have hld := Rg.hid (Rg.row_loadVar (P := Tryz.prog) (t := 29) (CS := CS) kB0.out Tryz.underlying29 rfl hin)
  have HT1 := Rg.hid (HT.out w1 hb0.out)
  clear HT kB0 hin
  go_upto_region 2 with (first | (refine Rg.wpList_load_row rfl (.tmp 1) 29 rfl rfl hld.out ?_) | (go_at_call 30; refine HT1.out.mono ?_; rintro e w3 ⟨eb, rfl, hq⟩))
  obtain ⟨hle, ⟨p1, q1, hE⟩, hb3, hkd⟩ := hq.out
  replace hE := Rg.hid hE
  have kR3 := Rg.hid (hkd R _ kR0.out)
  have hRe : Hid (R < eb) := Nat.lt_of_lt_of_le kR0.out.lt hle
  have hRe2 : Hid (eb ≠ R) := fun e => by have := hRe.out; omega
  have hb4 := Rg.hid (hb0.out.trans hb3)
  have HStr := Rg.hid (str_end hE.out kR3.out)
  obtain ⟨d1, hd1⟩ : ∃ d1, d1 = r.1 := ⟨_, rfl⟩
  obtain ⟨so, hso⟩ : ∃ so, so = r.2 := ⟨_, rfl⟩
  rw [← hd1] at hE HStr hqr
  rw [← hso] at hE HStr
  replace hd1 := Rg.hid hd1
  replace hso := Rg.hid hso
  clear HT1 hld hq hb3 hkd kR0 hb0
  refine wp_region_held_drew (S := (fun (w' : World) => Rg.Bk eb (EC d1 p1 q1) 66 w')) (by kernel_rfl) ?_ (fun hH0 => ?_)
  · exact hE.out.bk
  refine wpAnyH_take (i := 0) (oi := { dst := some 7, op := _, type := _, pos := _, after := _, guard := _ }) (v := ?_) rfl (by kernel_rfl) (by kernel_rfl) (by kernel_rfl) (fun _ _ _ h => h) (Or.inl ⟨by rfl, ?_⟩) (by assumption) ?_
  rotate_left
  · (intro w hSw; clear hSw; go_simp); (try with_reducible rfl)
  simp only [Act.put, List.setIfInBounds_toArray, List.set_cons_zero, List.set_cons_succ]
  refine wpAnyH_take (i := 1) (oi := { dst := some 8, op := _, type := _, pos := _, after := _, guard := _ }) (v := ?_) rfl (by kernel_rfl) (by kernel_rfl) (by kernel_rfl) (fun _ _ _ h => h) (Or.inl ⟨by rfl, ?_⟩) (by assumption) ?_
  rotate_left
  · (intro w hSw; clear hSw; go_simp); (try with_reducible rfl)
  simp only [Act.put, List.setIfInBounds_toArray, List.set_cons_zero, List.set_cons_succ]
  refine wpAnyH_take (i := 2) (oi := { dst := some 9, op := _, type := _, pos := _, after := _, guard := _ }) (v := ?_) rfl (by kernel_rfl) (by kernel_rfl) (by kernel_rfl) (fun _ _ _ h => h) (Or.inl ⟨by rfl, ?_⟩) (by assumption) ?_
  rotate_left
  · (intro w hSw; clear hSw; go_simp); (try with_reducible rfl)
  simp only [Act.put, List.setIfInBounds_toArray, List.set_cons_zero, List.set_cons_succ]
  refine wpAnyH_take (i := 3) (oi := { dst := some 10, op := _, type := _, pos := _, after := _, guard := _ }) (v := DV d1 p1) rfl (by kernel_rfl) (by kernel_rfl) (by kernel_rfl) (fun _ _ _ h => h) (Or.inl ⟨by rfl, fun w hSw => exec_load_row _ _ rfl rfl (load_end hSw)⟩) (by assumption) ?_
  simp only [Act.put, List.setIfInBounds_toArray, List.set_cons_zero, List.set_cons_succ]
  refine wpAnyH_take (i := 4) (oi := { dst := some 11, op := _, type := _, pos := _, after := _, guard := _ }) (v := ?_) rfl (by kernel_rfl) (by kernel_rfl) (by kernel_rfl) (fun _ _ _ h => h) (Or.inl ⟨by rfl, ?_⟩) (by assumption) ?_
  rotate_left
  · (intro w hSw; clear hSw; go_simp); (try with_reducible rfl)
  simp only [Act.put, List.setIfInBounds_toArray, List.set_cons_zero, List.set_cons_succ]
  refine wpAnyH_take (i := 5) (oi := { dst := some 12, op := _, type := _, pos := _, after := _, guard := _ }) (v := ?_) rfl (by kernel_rfl) (by kernel_rfl) (by kernel_rfl) (fun _ _ _ h => h) (Or.inl ⟨by rfl, ?_⟩) (by assumption) ?_
  rotate_left
  · (intro w hSw; clear hSw; go_simp); (try with_reducible rfl)
  simp only [Act.put, List.setIfInBounds_toArray, List.set_cons_zero, List.set_cons_succ]
  refine wpAnyH_take (i := 6) (oi := { dst := some 13, op := _, type := _, pos := _, after := _, guard := _ }) (v := ?_) rfl (by kernel_rfl) (by kernel_rfl) (by kernel_rfl) (fun _ _ _ h => h) (Or.inl ⟨by rfl, ?_⟩) (by assumption) ?_
  rotate_left
  · (intro w hSw; clear hSw; go_simp); (try with_reducible rfl)
  simp only [Act.put, List.setIfInBounds_toArray, List.set_cons_zero, List.set_cons_succ]
  refine wpAnyH_ready (rs := [7]) (by kernel_rfl) (by simp) ?_
  refine AllReadyH.cons (o := { dst := some 14, op := _, type := _, pos := _, after := _, guard := _ }) rfl (fun K hK => ?_) AllReadyH.nil
  go_simp
  go_at_call 27; refine HStr.out.mono ?_; rintro e w5 ⟨rfl, hb5, kE5, kR5⟩
  refine hK.out _ _ ?_ (fun hH7 => ?_)
  · exact kE5.out
  clear hK K hH0
  try simp only [Act.put, List.setIfInBounds_toArray, List.set_cons_zero, List.set_cons_succ]
  obtain ⟨w6, hst, kR6, oR6⟩ := Rg.row_storeVar (P := Tryz.prog) (t := 29) (CS := (DC d1 p1).toArray) kR5.out infoDr2 rfl (by simp [DC, Value.oneCell'])
  replace hst : Hid ((storeVar 29 ⟨R, 0, none⟩ (DV d1 p1)).run Tryz.prog w5 = .ok () w6) := hst
  have kE6 : Hid (Rg.Bk eb (EC d1 p1 q1) 66 w6) := kE5.out.same (oR6.block eb hRe2.out)
  refine wpAnyH_ready (rs := [8]) (by kernel_rfl) (by simp) ?_
  refine AllReadyH.cons (o := { dst := none, op := _, type := _, pos := _, after := _, guard := _ }) rfl (fun K hK => ?_) AllReadyH.nil
  refine step_store_row (by rfl) (.tmp 2) (.tmp 10) 29 (by rfl) (by rfl) (by rfl) hst.out ?_
  refine hK.out _ _ ?_ (fun hH8 => ?_)
  · exact kE6.out
  clear hK K hH7
  simp only [Act.put]
  refine wpAnyH_take (i := 9) (oi := { dst := some 3, op := _, type := _, pos := _, after := _, guard := _ }) (v := ?_) rfl (by kernel_rfl) (by kernel_rfl) (by kernel_rfl) (fun _ _ _ h => h) (Or.inl ⟨by rfl, ?_⟩) (by assumption) ?_
  rotate_left
  · (intro w hSw; clear hSw; go_simp); (try with_reducible rfl)
  simp only [Act.put, List.setIfInBounds_toArray, List.set_cons_zero, List.set_cons_succ]
  refine wpAnyH_done (by kernel_rfl) ?_ _
  have hfin : DR Kp w6 d1 p1 := hE.out.rest hqr.out hK.out kR3.out hRe.out (fun k hk h1 h2 h3 _ => by rw [oR6.block k h2]; exact hb5.out.2 k hk h3) (hb5.out.1.trans (oR6.bel hRw.out))
  have hbel : Below w.heap.size w w6 := (hb4.out.trans hb5.out.1).trans (oR6.bel hRw.out)
  have hres : (loadVar 29 ⟨R, 0, none⟩).run Tryz.prog w6 = .ok (DV d1 p1) w6 := Rg.row_loadVar (P := Tryz.prog) (t := 29) (CS := (DC d1 p1).toArray) kR6 Tryz.underlying29 rfl infoDr2
  have hfe : XPost Kp w (Gp.tick d) (.returned (.tuple #[DV d1 p1, .string ⟨so.toArray⟩])) w6 := by
    rw [← hrr.out]
    refine ⟨p1, by rw [hd1.out, hso.out], by rw [← hd1.out]; exact hfin, hbel⟩
  clear hfin hbel hE HStr hb5 kE5 kR5 oR6 kE6 kR6 hst hb4 kR3 hH8
  go_wp2
  exact bodyPost_ret (v := .tuple #[DV d1 p1, .string ⟨so.toArray⟩]) (results_row2 rfl rfl rfl hres) rfl hfe
end Go.Proofs.YtfiffbohhhehkaaGreat

namespace Go.Proofs.YtfiffbohhhehkaaGreat
open Go.RowKit
set_option maxHeartbeats 1000000 in
set_option maxRecDepth 100000 in
theorem closeC_no (eb : Nat) (W : World) (HI : Hid (Calls Tryz.prog 43 #[.pointer (some ⟨eb, 0, none⟩)] W fun e w' => e = .returned (.bool false) ∧ w' = W)) :
    Calls Tryz.prog 45 #[.pointer (some ⟨eb, 0, none⟩)] W fun e w' => e = .returned (.tuple #[]) ∧ w' = W := by
  go_enter Tryz.func45, Tryz.ntmps45
  go_wp2_with (go_at_call 43; refine HI.out.mono ?_; rintro e w2 ⟨rfl, hw⟩; obtain rfl := hw.symm)
  exact bodyPost_ret (v := .tuple #[]) (by simp [results, Tryz.results45, go_sem]) rfl ⟨rfl, rfl⟩
set_option maxHeartbeats 1000000 in
set_option maxRecDepth 100000 in
theorem closeC_yes {Kp : Nat → Prop} {base eb : Nat} {W : World} {d : Gp.Dr} {p : Pl} {q : Bu} {S C : List UInt8} (h : EAt Kp base W eb d p q S C) (Post : Ending → World → Prop) (HI : Hid (Calls Tryz.prog 43 #[.pointer (some ⟨eb, 0, none⟩)] W fun e w' => e = .returned (.bool true) ∧ w' = W))
    (HS : Hid (∀ W1, EAt Kp base W1 eb { d with phase := 3, tries := 0, step := 0 } p q S C → Fr base eb W W1 → Calls Tryz.prog 46 #[.pointer (some ⟨eb, 0, none⟩)] W1 fun e w' => e = .returned (.tuple #[]) ∧ Post (.returned (.tuple #[])) w')) :
    Calls Tryz.prog 45 #[.pointer (some ⟨eb, 0, none⟩)] W Post := by
  have c1 : W.cell? ⟨eb, 1, none⟩ = some (.int .i64 d.phase) := h.bk.cell 1
  have c3 : W.cell? ⟨eb, 3, none⟩ = some (.int .i64 d.step) := h.bk.cell 3
  have c16 : W.cell? ⟨eb, 16, none⟩ = some (.int .i64 d.tries) := h.bk.cell 16
  have fz := h.bk.thaw
  have h7 := Rg.hid (((h.upd 1 (.int .i64 3) { d with phase := 3 } rfl rfl rfl rfl rfl).upd 16 (.int .i64 0) { d with phase := 3, tries := 0 } rfl rfl rfl rfl rfl).upd 3 (.int .i64 0) { d with phase := 3, tries := 0, step := 0 } rfl rfl rfl rfl rfl)
  have f7 : Hid (Fr base eb W (((W.setCell ⟨eb, 1, none⟩ (.int .i64 3)).setCell ⟨eb, 16, none⟩ (.int .i64 0)).setCell ⟨eb, 3, none⟩ (.int .i64 0))) := ((Fr.set h.new _ _).trans (Fr.set h.new _ _)).trans (Fr.set h.new _ _)
  clear h
  go_enter Tryz.func45, Tryz.ntmps45
  go_upto_region 2 with (go_at_call 43; refine HI.out.mono ?_; rintro e w2 ⟨rfl, hw⟩; obtain rfl := hw.symm)
  generalize World.setCell _ _ _ = w1 at *
  go_wp2_with (go_at_call 46; refine (HS.out _ h7.out f7.out).mono ?_; rintro e w3 ⟨rfl, hp⟩)
  go_end0
  exact hp
theorem closeC_any {Kp : Nat → Prop} {base eb : Nat} {W : World} {d : Gp.Dr} {p : Pl} {q : Bu} (h : EAt Kp base W eb (Gp.own d) p q [] []) :
    Calls Tryz.prog 45 #[.pointer (some ⟨eb, 0, none⟩)] W fun e w' => EPost Kp base eb W (Gp.close d).1 (Gp.close d).2 [] e w' := by
  have HI := isOpen_any h
  have e0 : (Gp.own d).phase = d.phase := rfl
  rw [e0] at HI
  unfold Gp.close
  by_cases hp : d.phase ≠ 1 ∧ d.phase ≠ 2
  · rw [if_pos hp]
    rw [show decide (d.phase = 1 ∨ d.phase = 2) = false by simp [hp]] at HI
    exact EPost.id h (closeC_no eb W HI)
  · rw [if_neg hp]
    rw [show decide (d.phase = 1 ∨ d.phase = 2) = true by simp; omega] at HI
    exact closeC_yes h _ HI fun W1 hh f => EPost.go f (sayClose_any hh (by simp))
set_option maxHeartbeats 1000000 in
set_option maxRecDepth 100000 in
theorem sendC_empty (eb pb : Nat) (W : World) (k1 : W.cell? ⟨pb, 1, none⟩ = some (.string ⟨#[]⟩)) :
    Calls Tryz.prog 42 #[.pointer (some ⟨eb, 0, none⟩), .pointer (some ⟨pb, 0, none⟩)] W fun e w' => e = .returned (.tuple #[]) ∧ w' = W := by
  go_enter Tryz.func42, Tryz.ntmps42
  go_wp2
  exact bodyPost_ret (v := .tuple #[]) (by simp [results, Tryz.results42, go_sem]) rfl ⟨rfl, rfl⟩
set_option maxHeartbeats 1000000 in
set_option maxRecDepth 100000 in
theorem sendC_shut (eb pb : Nat) (D : ByteArray) (W : World) (k1 : W.cell? ⟨pb, 1, none⟩ = some (.string D)) (hD : (D.toList == []) = false) (HI : Hid (Calls Tryz.prog 43 #[.pointer (some ⟨eb, 0, none⟩)] W fun e w' => e = .returned (.bool false) ∧ w' = W)) :
    Calls Tryz.prog 42 #[.pointer (some ⟨eb, 0, none⟩), .pointer (some ⟨pb, 0, none⟩)] W fun e w' => e = .returned (.tuple #[]) ∧ w' = W := by
  go_enter Tryz.func42, Tryz.ntmps42
  go_wp2_with (go_at_call 43; refine HI.out.mono ?_; rintro e w2 ⟨rfl, hw⟩; obtain rfl := hw.symm)
  exact bodyPost_ret (v := .tuple #[]) (by simp [results, Tryz.results42, go_sem]) rfl ⟨rfl, rfl⟩
set_option maxHeartbeats 4000000 in
set_option maxRecDepth 100000 in
theorem sendC_go {Kp : Nat → Prop} {base eb : Nat} {W : World} {d : Gp.Dr} {p : Pl} {q : Bu} {S C : List UInt8} (h : EAt Kp base W eb d p q S C) (pb : Nat) (ch : Int) (D : ByteArray) (qn N1 : Nat) (hqn : Hid (d.queue.length = qn)) (k0 : W.cell? ⟨pb, 0, none⟩ = some (.int .i64 ch)) (k1 : W.cell? ⟨pb, 1, none⟩ = some (.string D)) (hD : (D.toList == []) = false) (Post : Ending → World → Prop)
    (HI : Hid (Calls Tryz.prog 43 #[.pointer (some ⟨eb, 0, none⟩)] W fun e w' => e = .returned (.bool true) ∧ w' = W))
    (HC : Hid (∀ W1 B g, Below W.heap.size W W1 → Rg.Bk B [.slice p.q qn p.qc, .slice (some ⟨g, 0, none⟩) 1 1] 26 W1 → Rg.Bk g [.int .i64 ch, .string D] 44 W1 → Calls Tryz.prog 44 #[.slice (some ⟨B, 0, none⟩) 2 2] W1 fun e w' => ∃ g' cap, e = .returned (.slice (some ⟨g', 0, none⟩) N1 cap) ∧ Hid (EAt Kp base w' eb d p q S C) ∧ Hid (Fr base eb W w') ∧ Hid (EAt Kp base (w'.setCell ⟨eb, 14, none⟩ (.slice (some ⟨g', 0, none⟩) N1 cap)) eb { d with queue := d.queue ++ [⟨ch, D⟩] } { p with q := some ⟨g', 0, none⟩, qc := cap } q S C)))
    (HS : Hid (∀ W1 p1, EAt Kp base W1 eb { d with queue := d.queue ++ [⟨ch, D⟩] } p1 q S C → Fr base eb W W1 → Calls Tryz.prog 33 #[.pointer (some ⟨eb, 0, none⟩)] W1 fun e w' => e = .returned (.tuple #[]) ∧ Post (.returned (.tuple #[])) w')) :
    Calls Tryz.prog 42 #[.pointer (some ⟨eb, 0, none⟩), .pointer (some ⟨pb, 0, none⟩)] W Post := by
  have c14 : W.cell? ⟨eb, 14, none⟩ = some (.slice p.q qn p.qc) := by rw [← hqn.out]; exact h.bk.cell 14
  have hlt : eb < W.heap.size := h.bk.lt
  have hb1 := Rg.hid ((Rg.al2 W (.cells #[.int .i64 ch, .string D] 44) (.cells #[.slice p.q qn p.qc, .slice (some ⟨W.heap.size, 0, none⟩) 1 1] 26)).drew)
  have kB : Hid (Rg.Bk (W.heap.size + 1) [.slice p.q qn p.qc, .slice (some ⟨W.heap.size, 0, none⟩) 1 1] 26 ((W.alloc (.cells #[.int .i64 ch, .string D] 44)).alloc (.cells #[.slice p.q qn p.qc, .slice (some ⟨W.heap.size, 0, none⟩) 1 1] 26)).drew) := Rg.Bk.drew (Rg.Bk.new (by simp))
  have kg : Hid (Rg.Bk W.heap.size [.int .i64 ch, .string D] 44 ((W.alloc (.cells #[.int .i64 ch, .string D] 44)).alloc (.cells #[.slice p.q qn p.qc, .slice (some ⟨W.heap.size, 0, none⟩) 1 1] 26)).drew) := Rg.Bk.drew ((Rg.Bk.new rfl).old _)
  have HC1 := Rg.hid (HC.out _ _ _ hb1.out kB.out kg.out)
  clear h HC hb1 kB kg
  go_enter Tryz.func42, Tryz.ntmps42
  go_upto_region 1 with (go_at_call 43; refine HI.out.mono ?_; rintro e w2 ⟨rfl, hw⟩; obtain rfl := hw.symm)
  go_region_with (go_at_call 44; refine HC1.out.mono ?_; rintro e w3 ⟨g', cap, rfl, h3, f3, h4⟩; have e14 : w3.cell? ⟨eb, 14, none⟩ = some (.slice p.q d.queue.length p.qc) := h3.out.bk.cell 14; have fz := h3.out.bk.thaw)
  all_goals (
    have f4 := Rg.hid (f3.out.trans (Fr.set h3.out.new 14 (.slice (some ⟨g', 0, none⟩) N1 cap)))
    have HS1 := Rg.hid (HS.out _ _ h4.out f4.out)
    clear HS h3 f3 h4 f4 HI HC1
    go_wp2_with (go_at_call 33; refine HS1.out.mono ?_; rintro e w5 ⟨rfl, hp⟩)
    go_end0
    exact hp)
theorem sendC_any {Kp : Nat → Prop} {base eb : Nat} {W : World} {d : Gp.Dr} {p : Pl} {q : Bu} (h : EAt Kp base W eb (Gp.own d) p q [] []) (hr : Gp.right d) (pb : Nat) (x : Gp.Pc) (kP : Rg.Bk pb [.int .i64 x.ch, .string x.data] 44 W) (hq : d.queue.length ≤ 1000) :
    Calls Tryz.prog 42 #[.pointer (some ⟨eb, 0, none⟩), .pointer (some ⟨pb, 0, none⟩)] W fun e w' => EPost Kp base eb W (Gp.send d x).1 (Gp.send d x).2 [] e w' := by
  have HI := isOpen_any h
  have e0 : (Gp.own d).phase = d.phase := rfl
  rw [e0] at HI
  have k0 : W.cell? ⟨pb, 0, none⟩ = some (.int .i64 x.ch) := kP.cell 0
  have k1 : W.cell? ⟨pb, 1, none⟩ = some (.string x.data) := kP.cell 1
  unfold Gp.send
  by_cases hs : x.data.size = 0
  · rw [if_pos (.inl hs)]
    have e : x.data = ⟨#[]⟩ := ByteArray.ext (Array.eq_empty_of_size_eq_zero hs)
    rw [e] at k1
    exact EPost.id h (sendC_empty eb pb W k1)
  have hD : (x.data.toList == []) = false := by
    have h0 : ¬ x.data.toList = [] := fun e => hs (by show x.data.data.size = 0; rw [← Array.length_toList, ← tl_eq, e]; rfl)
    simp [h0]
  by_cases hp : d.phase ≠ 1 ∧ d.phase ≠ 2
  · rw [if_pos (.inr hp)]
    rw [show decide (d.phase = 1 ∨ d.phase = 2) = false by simp [hp]] at HI
    exact EPost.id h (sendC_shut eb pb x.data W k1 hD HI)
  · rw [if_neg (fun e => by rcases e with e | e; exact hs e; exact hp e)]
    rw [show decide (d.phase = 1 ∨ d.phase = 2) = true by simp; omega] at HI
    have hr2 : Gp.right { Gp.own d with queue := d.queue ++ [x] } := by
      obtain ⟨⟨b1, b2, b3, b4, b5, b6, b7, b8, b9, b10, b11, b12, b13, b14, b15⟩, hp⟩ := hr
      refine ⟨⟨b1, b2, b3, b4, b5, b6, b7, b8, b9, b10, b11, b12, b13, b14, fun y hy => ?_⟩, hp⟩
      rcases List.mem_append.1 hy with hy | hy
      · exact b15 y hy
      · rw [List.mem_singleton.1 hy]; exact hs
    refine sendC_go h pb x.ch x.data d.queue.length (d.queue.length + 1) rfl k0 k1 hD _ HI (fun W1 B g hb kB kg => ?_) (fun W1 p1 hh f => EPost.go f (sendWaiting_any hh hr2 (by show (d.queue ++ [x]).length ≤ 100000; rw [List.length_append, List.length_singleton]; omega) (by simp)))
    refine (concatp_any d.queue d.queue.length (d.queue.length + 1) rfl rfl hq x p.q p.qc B g W1 (h.queue.e.below hb) kB kg).mono fun e w' ⟨g', cap, h1, h2, h3, h4, h5⟩ => ⟨g', cap, h1, h.below (Rg.chain hb h4), Fr.of (Rg.chain hb h4) h.lt, ?_⟩
    have hE := h.below (Rg.chain hb h4)
    refine hE.put 14 _ { Gp.own d with queue := d.queue ++ [x] } { p with q := some ⟨g', 0, none⟩, qc := cap } ?_ rfl ⟨rfl, rfl⟩ hE.win hE.wcap hE.ahead ?_
    · show List.set _ _ _ = _
      simp [EC, List.set]
    · exact (h.below hb).row h2.out (fun b o e => by cases e; exact h5.out)
set_option maxHeartbeats 2000000 in
set_option maxRecDepth 100000 in
theorem feedC_go {Kp : Nat → Prop} {base eb : Nat} {W : World} {d : Gp.Dr} {p : Pl} {q : Bu} {S C : List UInt8} (h : EAt Kp base W eb d p q S C) (sb : Nat) (s Z : ByteArray) (hZ : (⟨d.buf.toArray⟩ : ByteArray) ++ s = Z) (hz1 : (⟨d.buf.toArray⟩ : ByteArray).size + s.size ≤ 100000) (k0 : W.cell? ⟨sb, 0, none⟩ = some (.string s)) (b2 : List UInt8) (hb2 : Z = ⟨b2.toArray⟩) (Q : World → Prop) (Post : Ending → World → Prop)
    (HT : Hid (∀ W1, EAt Kp base W1 eb { d with buf := b2 } p q S C → Fr base eb W W1 → Calls Tryz.prog 32 #[.pointer (some ⟨eb, 0, none⟩)] W1 fun e w' => e = .returned (.tuple #[]) ∧ Hid (Q w')))
    (HS : Hid (∀ W1, Q W1 → Calls Tryz.prog 33 #[.pointer (some ⟨eb, 0, none⟩)] W1 fun e w' => e = .returned (.tuple #[]) ∧ Post (.returned (.tuple #[])) w')) :
    Calls Tryz.prog 31 #[.pointer (some ⟨eb, 0, none⟩), .pointer (some ⟨sb, 0, none⟩)] W Post := by
  have c12 : W.cell? ⟨eb, 12, none⟩ = some (.string ⟨d.buf.toArray⟩) := h.bk.cell 12
  have fz := h.bk.thaw
  have h2 : Hid (EAt Kp base (W.setCell ⟨eb, 12, none⟩ (.string Z)).drew eb { d with buf := b2 } p q S C) := by
    rw [hb2]
    exact (h.upd 12 (.string ⟨b2.toArray⟩) { d with buf := b2 } rfl rfl rfl rfl rfl).drew
  have f2 : Hid (Fr base eb W (W.setCell ⟨eb, 12, none⟩ (.string Z)).drew) := (Fr.set h.new _ _).drew
  clear h hb2
  generalize (⟨d.buf.toArray⟩ : ByteArray) = B at *
  go_enter Tryz.func31, Tryz.ntmps31
  go_wp2
  go_region
  generalize World.drew _ = w1 at *
  clear c12 fz k0
  have HT1 := Rg.hid (HT.out w1 h2.out f2.out)
  clear HT h2 f2
  go_wp2_with (first | (go_at_call 32; refine HT1.out.mono ?_; rintro e w2 ⟨rfl, hq⟩) | (go_at_call 33; refine (HS.out _ hq.out).mono ?_; rintro e w3 ⟨rfl, hp⟩))
  go_end0
  exact hp
theorem takes_queue (d : Gp.Dr) (f : Gf.Fr) : (Gp.takes d f).1.queue = d.queue := by
  have h2 : ∀ e : Gp.Dr, (Gp.takes2 e f).1.queue = e.queue := fun e => by
    have ho : (if e.phase = 1 ∧ e.step = 2 then Gp.open_ e else e).queue = e.queue := by split <;> rfl
    unfold Gp.takes2
    rw [← ho]
    generalize (if e.phase = 1 ∧ e.step = 2 then Gp.open_ e else e) = g
    dsimp only
    repeat' split
    all_goals rfl
  have hb : ∀ (e : Gp.Dr) (q low : Int), (Gp.begins e q low).1.queue = e.queue := fun e q low => by
    unfold Gp.begins
    dsimp only
    repeat' split
    all_goals rfl
  have hc : ∀ e : Gp.Dr, (Gp.closes e).1.queue = e.queue := fun e => by
    unfold Gp.closes
    repeat' split
    all_goals rfl
  unfold Gp.takes
  dsimp only
  split
  · exact hb _ _ _
  split
  · exact hc _
  · exact h2 _
theorem feedN_queue : ∀ (f : Nat) (d : Gp.Dr) (out came : List UInt8), (Gp.feedN f d out came).1.queue = d.queue
  | 0, _, _, _ => rfl
  | f + 1, d, out, came => by
    unfold Gp.feedN
    dsimp only
    split
    · rw [feedN_queue f, takes_queue]
    · rfl
/-- what Feed's closure leaves -/
def FPost (Kp : Nat → Prop) (base eb : Nat) (W : World) (r : Gp.Dr × List UInt8 × List UInt8) (e : Ending) (w' : World) : Prop := e = .returned (.tuple #[]) ∧ ES Kp base w' eb r.1 r.2.1 r.2.2 ∧ Below base W w' ∧ (∀ k C, Rg.Bk k C 29 W → Rg.Bk k C 29 w')
theorem cat_bytes (a b : List UInt8) : (⟨a.toArray⟩ : ByteArray) ++ (⟨b.toArray⟩ : ByteArray) = ⟨(a ++ b).toArray⟩ := by
  apply ByteArray.ext
  simp [ByteArray.data_append]
theorem feedC_any {Kp : Nat → Prop} {base eb : Nat} {W : World} {d : Gp.Dr} {p : Pl} {q : Bu} (h : EAt Kp base W eb (Gp.own d) p q [] []) (hr : Gp.right d) (sb : Nat) (s : List UInt8) (k0 : W.cell? ⟨sb, 0, none⟩ = some (.string ⟨s.toArray⟩)) (hq : d.queue.length ≤ 100000) (hm : d.at_ + d.buf.length + s.length ≤ 1099511627776) (hl : d.buf.length + s.length ≤ 40000) :
    Calls Tryz.prog 31 #[.pointer (some ⟨eb, 0, none⟩), .pointer (some ⟨sb, 0, none⟩)] W fun e w' => FPost Kp base eb W (Gp.feed d s) e w' := by
  have hlb : (d.buf ++ s).length = d.buf.length + s.length := List.length_append
  obtain ⟨d2, hd2⟩ : ∃ d2 : Gp.Dr, d2 = { Gp.own d with buf := d.buf ++ s } := ⟨_, rfl⟩
  have e2 : d2.buf.length = d.buf.length + s.length := by rw [hd2]; exact hlb
  have hr2 : Gp.right d2 := by
    rw [hd2]
    obtain ⟨⟨b1, b2, b3, b4, b5, b6, b7, b8, b9, b10, b11, b12, b13, b14, b15⟩, hp⟩ := hr
    exact ⟨⟨b1, b2, b3, b4, b5, b6, b7, b8, b9, b10, b11, b12, b13, b14, b15⟩, hp⟩
  have hm2 : d2.at_ + d2.buf.length ≤ 1099511627776 := by rw [e2, hd2]; show d.at_ + _ ≤ _; omega
  obtain ⟨r, hrr⟩ : ∃ r, r = Gp.feedN (d2.buf.length + 1) d2 [] [] := ⟨_, rfl⟩
  have hR := (Gp.right_feedN (d2.buf.length + 1) d2 [] [] (by omega) hr2 hm2).1
  rw [← hrr] at hR
  have hQ : r.1.queue = d.queue := by rw [hrr, feedN_queue, hd2]; rfl
  have hF : Gp.feed d s = ((Gp.fill r.1).1, r.2.1 ++ (Gp.fill r.1).2, r.2.2) := by
    unfold Gp.feed
    dsimp only
    rw [hrr, e2, hd2]
  rw [hF]
  refine feedC_go h sb ⟨s.toArray⟩ ⟨(d.buf ++ s).toArray⟩ (cat_bytes _ _) (by rw [size_bytes, size_bytes]; show d.buf.length + _ ≤ _; omega) k0 (d.buf ++ s) rfl (fun w' => (ES Kp base w' eb r.1 r.2.1 r.2.2 ∧ Below base W w' ∧ (∀ k C, Rg.Bk k C 29 W → Rg.Bk k C 29 w')) ∧ r.2.1.length ≤ 1600000000) _ (fun W1 hh f => ?_) (fun W1 hq1 => ?_)
  · rw [show ({ Gp.own d with buf := d.buf ++ s } : Gp.Dr) = d2 from hd2.symm] at hh
    refine (takePackets_any hh hr2 (by rw [hd2]; rfl) (by rw [e2]; exact hl) hm2 (by simp) (by simp)).mono fun e w' ⟨x1, x2, x3, x4, x5, x6⟩ => ?_
    rw [← hrr] at x2 x5 x6
    exact ⟨x1, ⟨x2, f.bel.trans x3, fun k C hk => x4 k C (f.bk hk (drive_ne h hk) (by decide))⟩, x5⟩
  · obtain ⟨⟨⟨p1, q1, h1⟩, x3, x4⟩, x5⟩ := hq1
    exact (sendWaiting_any h1 hR (by rw [hQ]; exact hq) (by omega)).mono fun e w' hp => ⟨hp.1, rfl, hp.2.1, x3.trans hp.2.2.bel, fun k C hk => hp.2.2.bk (x4 k C hk) (drive_ne h1 (x4 k C hk)) (by decide)⟩
end Go.Proofs.YtfiffbohhhehkaaGreat

namespace Go.Proofs.YtfiffbohhhehkaaGreat
open Go.RowKit
theorem cutQ_len (q : List Gp.Pc) (k : Nat) : (Gp.cutQ q k).length ≤ q.length := by
  unfold Gp.cutQ
  cases q with
  | nil => exact Nat.le_refl _
  | cons p r =>
    dsimp only
    split
    · simp
    · simp
theorem fillN_qlen : ∀ (f : Nat) (d : Gp.Dr) (out : List UInt8), (Gp.fillN f d out).1.queue.length ≤ d.queue.length
  | 0, _, _ => Nat.le_refl _
  | f + 1, d, out => by
    unfold Gp.fillN
    cases hq : d.queue with
    | nil => dsimp only; rw [hq]; exact Nat.le_refl _
    | cons p q =>
      dsimp only
      split
      · refine Nat.le_trans (fillN_qlen f _ _) ?_
        show (Gp.cutQ d.queue _).length ≤ _
        rw [← hq]
        exact cutQ_len _ _
      · rw [hq]; exact Nat.le_refl _
theorem close_queue (d : Gp.Dr) : (Gp.close d).1.queue = d.queue := by
  unfold Gp.close
  split <;> rfl
theorem send_qlen (d : Gp.Dr) (x : Gp.Pc) : (Gp.send d x).1.queue.length ≤ d.queue.length + 1 := by
  unfold Gp.send
  split
  · exact Nat.le_succ _
  · refine Nat.le_trans (fillN_qlen 8 _ _) ?_
    show (d.queue ++ [x]).length ≤ _
    simp
theorem feed_qlen (d : Gp.Dr) (s : List UInt8) : (Gp.feed d s).1.queue.length ≤ d.queue.length := by
  unfold Gp.feed
  dsimp only
  refine Nat.le_trans (fillN_qlen 8 _ _) ?_
  rw [feedN_queue]
  exact Nat.le_refl _
set_option maxHeartbeats 4000000 in
set_option maxRecDepth 100000 in
theorem gclose_any {Kp : Nat → Prop} (d : Gp.Dr) (p : Pl) (w : World) (hd : DR Kp w d p) (hr : Gp.right d) (hK : Hid (∀ b, w.heap.size ≤ b → Kp b)) :
    Calls Tryz.prog 19 #[DV d p] w fun e w' => XPost Kp w (Gp.close d) e w' := by
  obtain ⟨CS, hCS⟩ : ∃ CS : Array Value, CS = (DC d p).toArray := ⟨_, rfl⟩
  have eDV : DV d p = .agg CS := by rw [hCS]; rfl
  have hin : (Tryz.prog.info? 29).map (·.size) = some CS.size := by rw [hCS]; exact infoDr2
  have kB0 : Hid (Rg.Bk w.heap.size CS.toList 29 ((w.alloc (.cells CS 29)).alloc (.cells #[.int .i64 0, .int .i64 0, .bool false, .int .i64 0, .int .i64 0, .int .i64 0, .int .i64 0, .int .i64 0, .int .i64 0, .slice none 0 0, .int .i64 0, .slice none 0 0, .string ⟨#[]⟩, .int .i64 0, .slice none 0 0, .int .i64 0, .int .i64 0, .slice none 0 0] 29))) := (Rg.Bk.new rfl).old _
  have kR0 : Hid (Rg.Bk (w.heap.size + 1) [.int .i64 0, .int .i64 0, .bool false, .int .i64 0, .int .i64 0, .int .i64 0, .int .i64 0, .int .i64 0, .int .i64 0, .slice none 0 0, .int .i64 0, .slice none 0 0, .string ⟨#[]⟩, .int .i64 0, .slice none 0 0, .int .i64 0, .int .i64 0, .slice none 0 0] 29 ((w.alloc (.cells CS 29)).alloc (.cells #[.int .i64 0, .int .i64 0, .bool false, .int .i64 0, .int .i64 0, .int .i64 0, .int .i64 0, .int .i64 0, .int .i64 0, .slice none 0 0, .int .i64 0, .slice none 0 0, .string ⟨#[]⟩, .int .i64 0, .slice none 0 0, .int .i64 0, .int .i64 0, .slice none 0 0] 29))) := Rg.Bk.new (by simp)
  have hb0 := Rg.hid (Rg.al2 w (.cells CS 29) (.cells #[.int .i64 0, .int .i64 0, .bool false, .int .i64 0, .int .i64 0, .int .i64 0, .int .i64 0, .int .i64 0, .int .i64 0, .slice none 0 0, .int .i64 0, .slice none 0 0, .string ⟨#[]⟩, .int .i64 0, .slice none 0 0, .int .i64 0, .int .i64 0, .slice none 0 0] 29))
  obtain ⟨r, hrr⟩ : ∃ r, r = Gp.close d := ⟨_, rfl⟩
  have HT : Hid (∀ W, Below w.heap.size w W → Calls Tryz.prog 30 #[.agg CS, .func (.func 45) #[] #[]] W fun e w' => ∃ eb, e = .returned (.pointer (some ⟨eb, 0, none⟩)) ∧ Hid (W.heap.size ≤ eb ∧ ES Kp w.heap.size w' eb r.1 r.2 [] ∧ Below w.heap.size W w' ∧ ∀ k C, Rg.Bk k C 29 W → Rg.Bk k C 29 w')) := by
    intro W hW
    rw [← eDV]
    refine through_close d p w W hW hd hr (fun eb w' => Hid (W.heap.size ≤ eb ∧ ES Kp w.heap.size w' eb r.1 r.2 [] ∧ Below w.heap.size W w' ∧ ∀ k C, Rg.Bk k C 29 W → Rg.Bk k C 29 w')) fun W1 p1 q1 eb hE hB hle => ?_
    refine (closeC_any hE).mono fun e w' hp => ⟨hp.1, hle, ?_, (hB.mono hW.size).trans hp.2.2.bel, fun k C h => ?_⟩
    · rw [hrr]; exact hp.2.1
    · exact hp.2.2.bk (h.below hB h.lt) (drive_ne hE (h.below hB h.lt)) (by decide)
  have hqr : Hid (r.1.queue.length ≤ 100000) := by
    rw [hrr]
    rw [close_queue]; exact hd.ql
  replace hrr := Rg.hid hrr
  rw [eDV]
  clear hCS eDV hd hr
  go_enter Tryz.func19, Tryz.ntmps19
  go_upto_region 1 with fail
  generalize World.alloc _ _ = w1 at *
  obtain ⟨B, hB⟩ : ∃ B, B = w.heap.size := ⟨_, rfl⟩
  obtain ⟨R, hR⟩ : ∃ R, R = w.heap.size + 1 := ⟨_, rfl⟩
  rw [← hR] at kR0 ⊢
  rw [← hB] at kB0 ⊢
  have hRw : Hid (w.heap.size ≤ R) := by show _ ≤ _; omega
  replace hB := Rg.hid hB
  replace hR := Rg.hid hR
  have hld := Rg.hid (Rg.row_loadVar (P := Tryz.prog) (t := 29) (CS := CS) kB0.out Tryz.underlying29 rfl hin)
  have HT1 := Rg.hid (HT.out w1 hb0.out)
  clear HT kB0 hin
  go_upto_region 2 with (first | (refine Rg.wpList_load_row rfl (.tmp 1) 29 rfl rfl hld.out ?_) | (go_at_call 30; refine HT1.out.mono ?_; rintro e w3 ⟨eb, rfl, hq⟩))
  obtain ⟨hle, ⟨p1, q1, hE⟩, hb3, hkd⟩ := hq.out
  replace hE := Rg.hid hE
  have kR3 := Rg.hid (hkd R _ kR0.out)
  have hRe : Hid (R < eb) := Nat.lt_of_lt_of_le kR0.out.lt hle
  have hRe2 : Hid (eb ≠ R) := fun e => by have := hRe.out; omega
  have hb4 := Rg.hid (hb0.out.trans hb3)
  have HStr := Rg.hid (str_end hE.out kR3.out)
  obtain ⟨d1, hd1⟩ : ∃ d1, d1 = r.1 := ⟨_, rfl⟩
  obtain ⟨so, hso⟩ : ∃ so, so = r.2 := ⟨_, rfl⟩
  rw [← hd1] at hE HStr hqr
  rw [← hso] at hE HStr
  replace hd1 := Rg.hid hd1
  replace hso := Rg.hid hso
  clear HT1 hld hq hb3 hkd kR0 hb0
  refine wp_region_held_drew (S := (fun (w' : World) => Rg.Bk eb (EC d1 p1 q1) 66 w')) (by kernel_rfl) ?_ (fun hH0 => ?_)
  · exact hE.out.bk
  refine wpAnyH_take (i := 0) (oi := { dst := some 7, op := _, type := _, pos := _, after := _, guard := _ }) (v := ?_) rfl (by kernel_rfl) (by kernel_rfl) (by kernel_rfl) (fun _ _ _ h => h) (Or.inl ⟨by rfl, ?_⟩) (by assumption) ?_
  rotate_left
  · (intro w hSw; clear hSw; go_simp); (try with_reducible rfl)
  simp only [Act.put, List.setIfInBounds_toArray, List.set_cons_zero, List.set_cons_succ]
  refine wpAnyH_take (i := 1) (oi := { dst := some 8, op := _, type := _, pos := _, after := _, guard := _ }) (v := ?_) rfl (by kernel_rfl) (by kernel_rfl) (by kernel_rfl) (fun _ _ _ h => h) (Or.inl ⟨by rfl, ?_⟩) (by assumption) ?_
  rotate_left
  · (intro w hSw; clear hSw; go_simp); (try with_reducible rfl)
  simp only [Act.put, List.setIfInBounds_toArray, List.set_cons_zero, List.set_cons_succ]
  refine wpAnyH_take (i := 2) (oi := { dst := some 9, op := _, type := _, pos := _, after := _, guard := _ }) (v := ?_) rfl (by kernel_rfl) (by kernel_rfl) (by kernel_rfl) (fun _ _ _ h => h) (Or.inl ⟨by rfl, ?_⟩) (by assumption) ?_
  rotate_left
  · (intro w hSw; clear hSw; go_simp); (try with_reducible rfl)
  simp only [Act.put, List.setIfInBounds_toArray, List.set_cons_zero, List.set_cons_succ]
  refine wpAnyH_take (i := 3) (oi := { dst := some 10, op := _, type := _, pos := _, after := _, guard := _ }) (v := DV d1 p1) rfl (by kernel_rfl) (by kernel_rfl) (by kernel_rfl) (fun _ _ _ h => h) (Or.inl ⟨by rfl, fun w hSw => exec_load_row _ _ rfl rfl (load_end hSw)⟩) (by assumption) ?_
  simp only [Act.put, List.setIfInBounds_toArray, List.set_cons_zero, List.set_cons_succ]
  refine wpAnyH_take (i := 4) (oi := { dst := some 11, op := _, type := _, pos := _, after := _, guard := _ }) (v := ?_) rfl (by kernel_rfl) (by kernel_rfl) (by kernel_rfl) (fun _ _ _ h => h) (Or.inl ⟨by rfl, ?_⟩) (by assumption) ?_
  rotate_left
  · (intro w hSw; clear hSw; go_simp); (try with_reducible rfl)
  simp only [Act.put, List.setIfInBounds_toArray, List.set_cons_zero, List.set_cons_succ]
  refine wpAnyH_take (i := 5) (oi := { dst := some 12, op := _, type := _, pos := _, after := _, guard := _ }) (v := ?_) rfl (by kernel_rfl) (by kernel_rfl) (by kernel_rfl) (fun _ _ _ h => h) (Or.inl ⟨by rfl, ?_⟩) (by assumption) ?_
  rotate_left
  · (intro w hSw; clear hSw; go_simp); (try with_reducible rfl)
  simp only [Act.put, List.setIfInBounds_toArray, List.set_cons_zero, List.set_cons_succ]
  refine wpAnyH_take (i := 6) (oi := { dst := some 13, op := _, type := _, pos := _, after := _, guard := _ }) (v := ?_) rfl (by kernel_rfl) (by kernel_rfl) (by kernel_rfl) (fun _ _ _ h => h) (Or.inl ⟨by rfl, ?_⟩) (by assumption) ?_
  rotate_left
  · (intro w hSw; clear hSw; go_simp); (try with_reducible rfl)
  simp only [Act.put, List.setIfInBounds_toArray, List.set_cons_zero, List.set_cons_succ]
  refine wpAnyH_ready (rs := [7]) (by kernel_rfl) (by simp) ?_
  refine AllReadyH.cons (o := { dst := some 14, op := _, type := _, pos := _, after := _, guard := _ }) rfl (fun K hK => ?_) AllReadyH.nil
  go_simp
  go_at_call 27; refine HStr.out.mono ?_; rintro e w5 ⟨rfl, hb5, kE5, kR5⟩
  refine hK.out _ _ ?_ (fun hH7 => ?_)
  · exact kE5.out
  clear hK K hH0
  try simp only [Act.put, List.setIfInBounds_toArray, List.set_cons_zero, List.set_cons_succ]
  obtain ⟨w6, hst, kR6, oR6⟩ := Rg.row_storeVar (P := Tryz.prog) (t := 29) (CS := (DC d1 p1).toArray) kR5.out infoDr2 rfl (by simp [DC, Value.oneCell'])
  replace hst : Hid ((storeVar 29 ⟨R, 0, none⟩ (DV d1 p1)).run Tryz.prog w5 = .ok () w6) := hst
  have kE6 : Hid (Rg.Bk eb (EC d1 p1 q1) 66 w6) := kE5.out.same (oR6.block eb hRe2.out)
  refine wpAnyH_ready (rs := [8]) (by kernel_rfl) (by simp) ?_
  refine AllReadyH.cons (o := { dst := none, op := _, type := _, pos := _, after := _, guard := _ }) rfl (fun K hK => ?_) AllReadyH.nil
  refine step_store_row (by rfl) (.tmp 2) (.tmp 10) 29 (by rfl) (by rfl) (by rfl) hst.out ?_
  refine hK.out _ _ ?_ (fun hH8 => ?_)
  · exact kE6.out
  clear hK K hH7
  simp only [Act.put]
  refine wpAnyH_take (i := 9) (oi := { dst := some 3, op := _, type := _, pos := _, after := _, guard := _ }) (v := ?_) rfl (by kernel_rfl) (by kernel_rfl) (by kernel_rfl) (fun _ _ _ h => h) (Or.inl ⟨by rfl, ?_⟩) (by assumption) ?_
  rotate_left
  · (intro w hSw; clear hSw; go_simp); (try with_reducible rfl)
  simp only [Act.put, List.setIfInBounds_toArray, List.set_cons_zero, List.set_cons_succ]
  refine wpAnyH_done (by kernel_rfl) ?_ _
  have hfin : DR Kp w6 d1 p1 := hE.out.rest hqr.out hK.out kR3.out hRe.out (fun k hk h1 h2 h3 _ => by rw [oR6.block k h2]; exact hb5.out.2 k hk h3) (hb5.out.1.trans (oR6.bel hRw.out))
  have hbel : Below w.heap.size w w6 := (hb4.out.trans hb5.out.1).trans (oR6.bel hRw.out)
  have hres : (loadVar 29 ⟨R, 0, none⟩).run Tryz.prog w6 = .ok (DV d1 p1) w6 := Rg.row_loadVar (P := Tryz.prog) (t := 29) (CS := (DC d1 p1).toArray) kR6 Tryz.underlying29 rfl infoDr2
  have hfe : XPost Kp w (Gp.close d) (.returned (.tuple #[DV d1 p1, .string ⟨so.toArray⟩])) w6 := by
    rw [← hrr.out]
    refine ⟨p1, by rw [hd1.out, hso.out], by rw [← hd1.out]; exact hfin, hbel⟩
  clear hfin hbel hE HStr hb5 kE5 kR5 oR6 kE6 kR6 hst hb4 kR3 hH8
  go_wp2
  exact bodyPost_ret (v := .tuple #[DV d1 p1, .string ⟨so.toArray⟩]) (results_row2 rfl rfl rfl hres) rfl hfe
set_option maxHeartbeats 4000000 in
set_option maxRecDepth 100000 in
theorem gsend_any {Kp : Nat → Prop} (d : Gp.Dr) (p : Pl) (x : Gp.Pc) (w : World) (hd : DR Kp w d p) (hr : Gp.right d) (hql : d.queue.length ≤ 1000) (hK : Hid (∀ b, w.heap.size ≤ b → Kp b)) :
    Calls Tryz.prog 17 #[DV d p, .agg #[.int .i64 x.ch, .string x.data]] w fun e w' => XPost Kp w (Gp.send d x) e w' := by
  obtain ⟨CS, hCS⟩ : ∃ CS : Array Value, CS = (DC d p).toArray := ⟨_, rfl⟩
  have eDV : DV d p = .agg CS := by rw [hCS]; rfl
  have hin : (Tryz.prog.info? 29).map (·.size) = some CS.size := by rw [hCS]; exact infoDr2
  have kB0 : Hid (Rg.Bk w.heap.size CS.toList 29 (((w.alloc (.cells CS 29)).alloc (.cells #[.int .i64 x.ch, .string x.data] 44)).alloc (.cells #[.int .i64 0, .int .i64 0, .bool false, .int .i64 0, .int .i64 0, .int .i64 0, .int .i64 0, .int .i64 0, .int .i64 0, .slice none 0 0, .int .i64 0, .slice none 0 0, .string ⟨#[]⟩, .int .i64 0, .slice none 0 0, .int .i64 0, .int .i64 0, .slice none 0 0] 29))) := ((Rg.Bk.new rfl).old _).old _
  have kR0 : Hid (Rg.Bk (w.heap.size + 1 + 1) [.int .i64 0, .int .i64 0, .bool false, .int .i64 0, .int .i64 0, .int .i64 0, .int .i64 0, .int .i64 0, .int .i64 0, .slice none 0 0, .int .i64 0, .slice none 0 0, .string ⟨#[]⟩, .int .i64 0, .slice none 0 0, .int .i64 0, .int .i64 0, .slice none 0 0] 29 (((w.alloc (.cells CS 29)).alloc (.cells #[.int .i64 x.ch, .string x.data] 44)).alloc (.cells #[.int .i64 0, .int .i64 0, .bool false, .int .i64 0, .int .i64 0, .int .i64 0, .int .i64 0, .int .i64 0, .int .i64 0, .slice none 0 0, .int .i64 0, .slice none 0 0, .string ⟨#[]⟩, .int .i64 0, .slice none 0 0, .int .i64 0, .int .i64 0, .slice none 0 0] 29))) := Rg.Bk.new (by simp)
  have hb0 := Rg.hid (Rg.al3 w (.cells CS 29) (.cells #[.int .i64 x.ch, .string x.data] 44) (.cells #[.int .i64 0, .int .i64 0, .bool false, .int .i64 0, .int .i64 0, .int .i64 0, .int .i64 0, .int .i64 0, .int .i64 0, .slice none 0 0, .int .i64 0, .slice none 0 0, .string ⟨#[]⟩, .int .i64 0, .slice none 0 0, .int .i64 0, .int .i64 0, .slice none 0 0] 29))
  have kP0 : Hid (Rg.Bk (w.heap.size + 1) [.int .i64 x.ch, .string x.data] 44 (((w.alloc (.cells CS 29)).alloc (.cells #[.int .i64 x.ch, .string x.data] 44)).alloc (.cells #[.int .i64 0, .int .i64 0, .bool false, .int .i64 0, .int .i64 0, .int .i64 0, .int .i64 0, .int .i64 0, .int .i64 0, .slice none 0 0, .int .i64 0, .slice none 0 0, .string ⟨#[]⟩, .int .i64 0, .slice none 0 0, .int .i64 0, .int .i64 0, .slice none 0 0] 29))) := (Rg.Bk.new (by simp)).old _
  obtain ⟨r, hrr⟩ : ∃ r, r = Gp.send d x := ⟨_, rfl⟩
  have HT : Hid (∀ W, Below w.heap.size w W → ∀ PB, Rg.Bk PB [.int .i64 x.ch, .string x.data] 44 W → Calls Tryz.prog 30 #[.agg CS, .func (.func 42) #[] #[.pointer (some ⟨PB, 0, none⟩)]] W fun e w' => ∃ eb, e = .returned (.pointer (some ⟨eb, 0, none⟩)) ∧ Hid (W.heap.size ≤ eb ∧ ES Kp w.heap.size w' eb r.1 r.2 [] ∧ Below w.heap.size W w' ∧ ∀ k C, Rg.Bk k C 29 W → Rg.Bk k C 29 w')) := by
    intro W hW PB kPB
    rw [← eDV]
    refine through_send d p w W (.pointer (some ⟨PB, 0, none⟩)) hW hd hr (fun eb w' => Hid (W.heap.size ≤ eb ∧ ES Kp w.heap.size w' eb r.1 r.2 [] ∧ Below w.heap.size W w' ∧ ∀ k C, Rg.Bk k C 29 W → Rg.Bk k C 29 w')) fun W1 p1 q1 eb hE hB hle => ?_
    refine (sendC_any hE hr PB x (kPB.below hB kPB.lt) hql).mono fun e w' hp => ⟨hp.1, hle, ?_, (hB.mono hW.size).trans hp.2.2.bel, fun k C h => ?_⟩
    · rw [hrr]; exact hp.2.1
    · exact hp.2.2.bk (h.below hB h.lt) (drive_ne hE (h.below hB h.lt)) (by decide)
  have hqr : Hid (r.1.queue.length ≤ 100000) := by
    rw [hrr]
    have := send_qlen d x; show _ ≤ _; omega
  replace hrr := Rg.hid hrr
  rw [eDV]
  clear hCS eDV hd hr hql
  go_enter Tryz.func17, Tryz.ntmps17
  go_upto_region 1 with fail
  generalize World.alloc _ _ = w1 at *
  obtain ⟨B, hB⟩ : ∃ B, B = w.heap.size := ⟨_, rfl⟩
  obtain ⟨R, hR⟩ : ∃ R, R = w.heap.size + 1 + 1 := ⟨_, rfl⟩
  rw [← hR] at kR0 ⊢
  obtain ⟨PB, hPB⟩ : ∃ PB, PB = w.heap.size + 1 := ⟨_, rfl⟩
  rw [← hPB] at kP0 ⊢
  replace hPB := Rg.hid hPB
  rw [← hB] at kB0 ⊢
  have hRw : Hid (w.heap.size ≤ R) := by show _ ≤ _; omega
  replace hB := Rg.hid hB
  replace hR := Rg.hid hR
  have hld := Rg.hid (Rg.row_loadVar (P := Tryz.prog) (t := 29) (CS := CS) kB0.out Tryz.underlying29 rfl hin)
  have HT1 := Rg.hid (HT.out w1 hb0.out PB kP0.out)
  clear HT kB0 hin kP0
  go_upto_region 2 with (first | (refine Rg.wpList_load_row rfl (.tmp 2) 29 rfl rfl hld.out ?_) | (go_at_call 30; refine HT1.out.mono ?_; rintro e w3 ⟨eb, rfl, hq⟩))
  obtain ⟨hle, ⟨p1, q1, hE⟩, hb3, hkd⟩ := hq.out
  replace hE := Rg.hid hE
  have kR3 := Rg.hid (hkd R _ kR0.out)
  have hRe : Hid (R < eb) := Nat.lt_of_lt_of_le kR0.out.lt hle
  have hRe2 : Hid (eb ≠ R) := fun e => by have := hRe.out; omega
  have hb4 := Rg.hid (hb0.out.trans hb3)
  have HStr := Rg.hid (str_end hE.out kR3.out)
  obtain ⟨d1, hd1⟩ : ∃ d1, d1 = r.1 := ⟨_, rfl⟩
  obtain ⟨so, hso⟩ : ∃ so, so = r.2 := ⟨_, rfl⟩
  rw [← hd1] at hE HStr hqr
  rw [← hso] at hE HStr
  replace hd1 := Rg.hid hd1
  replace hso := Rg.hid hso
  clear HT1 hld hq hb3 hkd kR0 hb0
  refine wp_region_held_drew (S := (fun (w' : World) => Rg.Bk eb (EC d1 p1 q1) 66 w')) (by kernel_rfl) ?_ (fun hH0 => ?_)
  · exact hE.out.bk
  refine wpAnyH_take (i := 0) (oi := { dst := some 10, op := _, type := _, pos := _, after := _, guard := _ }) (v := ?_) rfl (by kernel_rfl) (by kernel_rfl) (by kernel_rfl) (fun _ _ _ h => h) (Or.inl ⟨by rfl, ?_⟩) (by assumption) ?_
  rotate_left
  · (intro w hSw; clear hSw; go_simp); (try with_reducible rfl)
  simp only [Act.put, List.setIfInBounds_toArray, List.set_cons_zero, List.set_cons_succ]
  refine wpAnyH_take (i := 1) (oi := { dst := some 11, op := _, type := _, pos := _, after := _, guard := _ }) (v := ?_) rfl (by kernel_rfl) (by kernel_rfl) (by kernel_rfl) (fun _ _ _ h => h) (Or.inl ⟨by rfl, ?_⟩) (by assumption) ?_
  rotate_left
  · (intro w hSw; clear hSw; go_simp); (try with_reducible rfl)
  simp only [Act.put, List.setIfInBounds_toArray, List.set_cons_zero, List.set_cons_succ]
  refine wpAnyH_take (i := 2) (oi := { dst := some 12, op := _, type := _, pos := _, after := _, guard := _ }) (v := ?_) rfl (by kernel_rfl) (by kernel_rfl) (by kernel_rfl) (fun _ _ _ h => h) (Or.inl ⟨by rfl, ?_⟩) (by assumption) ?_
  rotate_left
  · (intro w hSw; clear hSw; go_simp); (try with_reducible rfl)
  simp only [Act.put, List.setIfInBounds_toArray, List.set_cons_zero, List.set_cons_succ]
  refine wpAnyH_take (i := 3) (oi := { dst := some 13, op := _, type := _, pos := _, after := _, guard := _ }) (v := DV d1 p1) rfl (by kernel_rfl) (by kernel_rfl) (by kernel_rfl) (fun _ _ _ h => h) (Or.inl ⟨by rfl, fun w hSw => exec_load_row _ _ rfl rfl (load_end hSw)⟩) (by assumption) ?_
  simp only [Act.put, List.setIfInBounds_toArray, List.set_cons_zero, List.set_cons_succ]
  refine wpAnyH_take (i := 4) (oi := { dst := some 14, op := _, type := _, pos := _, after := _, guard := _ }) (v := ?_) rfl (by kernel_rfl) (by kernel_rfl) (by kernel_rfl) (fun _ _ _ h => h) (Or.inl ⟨by rfl, ?_⟩) (by assumption) ?_
  rotate_left
  · (intro w hSw; clear hSw; go_simp); (try with_reducible rfl)
  simp only [Act.put, List.setIfInBounds_toArray, List.set_cons_zero, List.set_cons_succ]
  refine wpAnyH_take (i := 5) (oi := { dst := some 15, op := _, type := _, pos := _, after := _, guard := _ }) (v := ?_) rfl (by kernel_rfl) (by kernel_rfl) (by kernel_rfl) (fun _ _ _ h => h) (Or.inl ⟨by rfl, ?_⟩) (by assumption) ?_
  rotate_left
  · (intro w hSw; clear hSw; go_simp); (try with_reducible rfl)
  simp only [Act.put, List.setIfInBounds_toArray, List.set_cons_zero, List.set_cons_succ]
  refine wpAnyH_take (i := 6) (oi := { dst := some 16, op := _, type := _, pos := _, after := _, guard := _ }) (v := ?_) rfl (by kernel_rfl) (by kernel_rfl) (by kernel_rfl) (fun _ _ _ h => h) (Or.inl ⟨by rfl, ?_⟩) (by assumption) ?_
  rotate_left
  · (intro w hSw; clear hSw; go_simp); (try with_reducible rfl)
  simp only [Act.put, List.setIfInBounds_toArray, List.set_cons_zero, List.set_cons_succ]
  refine wpAnyH_ready (rs := [7]) (by kernel_rfl) (by simp) ?_
  refine AllReadyH.cons (o := { dst := some 17, op := _, type := _, pos := _, after := _, guard := _ }) rfl (fun K hK => ?_) AllReadyH.nil
  go_simp
  go_at_call 27; refine HStr.out.mono ?_; rintro e w5 ⟨rfl, hb5, kE5, kR5⟩
  refine hK.out _ _ ?_ (fun hH7 => ?_)
  · exact kE5.out
  clear hK K hH0
  try simp only [Act.put, List.setIfInBounds_toArray, List.set_cons_zero, List.set_cons_succ]
  obtain ⟨w6, hst, kR6, oR6⟩ := Rg.row_storeVar (P := Tryz.prog) (t := 29) (CS := (DC d1 p1).toArray) kR5.out infoDr2 rfl (by simp [DC, Value.oneCell'])
  replace hst : Hid ((storeVar 29 ⟨R, 0, none⟩ (DV d1 p1)).run Tryz.prog w5 = .ok () w6) := hst
  have kE6 : Hid (Rg.Bk eb (EC d1 p1 q1) 66 w6) := kE5.out.same (oR6.block eb hRe2.out)
  refine wpAnyH_ready (rs := [8]) (by kernel_rfl) (by simp) ?_
  refine AllReadyH.cons (o := { dst := none, op := _, type := _, pos := _, after := _, guard := _ }) rfl (fun K hK => ?_) AllReadyH.nil
  refine step_store_row (by rfl) (.tmp 4) (.tmp 13) 29 (by rfl) (by rfl) (by rfl) hst.out ?_
  refine hK.out _ _ ?_ (fun hH8 => ?_)
  · exact kE6.out
  clear hK K hH7
  simp only [Act.put]
  refine wpAnyH_take (i := 9) (oi := { dst := some 5, op := _, type := _, pos := _, after := _, guard := _ }) (v := ?_) rfl (by kernel_rfl) (by kernel_rfl) (by kernel_rfl) (fun _ _ _ h => h) (Or.inl ⟨by rfl, ?_⟩) (by assumption) ?_
  rotate_left
  · (intro w hSw; clear hSw; go_simp); (try with_reducible rfl)
  simp only [Act.put, List.setIfInBounds_toArray, List.set_cons_zero, List.set_cons_succ]
  refine wpAnyH_done (by kernel_rfl) ?_ _
  have hfin : DR Kp w6 d1 p1 := hE.out.rest hqr.out hK.out kR3.out hRe.out (fun k hk h1 h2 h3 _ => by rw [oR6.block k h2]; exact hb5.out.2 k hk h3) (hb5.out.1.trans (oR6.bel hRw.out))
  have hbel : Below w.heap.size w w6 := (hb4.out.trans hb5.out.1).trans (oR6.bel hRw.out)
  have hres : (loadVar 29 ⟨R, 0, none⟩).run Tryz.prog w6 = .ok (DV d1 p1) w6 := Rg.row_loadVar (P := Tryz.prog) (t := 29) (CS := (DC d1 p1).toArray) kR6 Tryz.underlying29 rfl infoDr2
  have hfe : XPost Kp w (Gp.send d x) (.returned (.tuple #[DV d1 p1, .string ⟨so.toArray⟩])) w6 := by
    rw [← hrr.out]
    refine ⟨p1, by rw [hd1.out, hso.out], by rw [← hd1.out]; exact hfin, hbel⟩
  clear hfin hbel hE HStr hb5 kE5 kR5 oR6 kE6 kR6 hst hb4 kR3 hH8
  go_wp2
  exact bodyPost_ret (v := .tuple #[DV d1 p1, .string ⟨so.toArray⟩]) (results_row2 rfl rfl rfl hres) rfl hfe
end Go.Proofs.YtfiffbohhhehkaaGreat
