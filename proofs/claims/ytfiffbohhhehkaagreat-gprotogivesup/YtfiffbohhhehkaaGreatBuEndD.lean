/-
  Walks of layer 15: takeOther. Walks of layer 15: take.
-/
import Derived.Test.YtfiffbohhhehkaaGreatBuEndC
namespace Go.Proofs.YtfiffbohhhehkaaGreat
open Go.RowKit
/-- what comes of a data packet -/
def Gp.datum (d : Gp.Dr) (hi : Int) (data : List UInt8) : Gp.Dr × List UInt8 × List UInt8 :=
  if Wn.ahead d.wants hi 8 = 0 then ({ d with wants := (d.wants + 1) % 8 }, Gp.ready { d with wants := (d.wants + 1) % 8 }, data)
  else if Wn.ahead d.wants hi 8 < d.room then (d, Gp.ctrl 2 (Gp.last d), []) else (d, Gp.ready d, [])
theorem takeData_any {Kp : Nat → Prop} {base eb : Nat} {W : World} {d : Gp.Dr} {p : Pl} {q : Bu} {S C : List UInt8} (h : EAt Kp base W eb d p q S C) (ty hi lo sz : Int) (D : ByteArray) (h0 : 0 ≤ d.wants) (h7 : d.wants ≤ 7) (hlen : S.length + 6 ≤ 140737488355328) (hlc : C.length + D.size ≤ 140737488355328) :
    Calls Tryz.prog 107 #[.pointer (some ⟨eb, 0, none⟩), .agg #[.int .i64 ty, .int .i64 hi, .int .i64 lo, .int .i64 sz, .string D]] W fun e w' => EPost Kp base eb W (Gp.datum d hi D.data.toList).1 (S ++ (Gp.datum d hi D.data.toList).2.1) (C ++ (Gp.datum d hi D.data.toList).2.2) e w' := by
  have HA : Hid (∀ W, Calls Tryz.prog 127 #[.int .i64 d.wants, .int .i64 hi, .int .i64 8] W fun e w' => e = .returned (.int .i64 (Wn.ahead d.wants hi 8)) ∧ w' = W) := ahead_any d.wants hi 8
  unfold Gp.datum
  by_cases hk : Wn.ahead d.wants hi 8 = 0
  · rw [hk] at HA
    rw [if_pos hk]
    refine takeData_in h ty hi lo sz (d.wants + 1) ((d.wants + 1) % 8) D _ (by unfold wrap64; omega) (Int.tmod_eq_emod_of_nonneg (by omega)) HA (fun W1 hh => hh.come D hlc) fun W1 p1 q1 hh f => EPost.go f (sayReady_any hh (by show 0 ≤ (d.wants + 1) % 8; omega) (by show (d.wants + 1) % 8 ≤ 7; omega) hlen)
  · rw [if_neg hk]
    by_cases hr : Wn.ahead d.wants hi 8 < d.room
    · rw [if_pos hr]
      dsimp only
      rw [List.append_nil]
      exact takeData_say h ty hi lo sz _ D _ (by simp [hk]) true (by simp [hr]) HA (fun W1 hh f _ => EPost.go f (sayReject_any hh h0 h7 hlen)) (fun _ _ _ hx => by cases hx)
    · rw [if_neg hr]
      dsimp only
      rw [List.append_nil]
      exact takeData_say h ty hi lo sz _ D _ (by simp [hk]) false (by simp [hr]) HA (fun _ _ _ hx => by cases hx) (fun W1 hh f _ => EPost.go f (sayReady_any hh h0 h7 hlen))
set_option maxHeartbeats 2000000 in
set_option maxRecDepth 100000 in
theorem takeOther_run {Kp : Nat → Prop} {base eb : Nat} {W : World} {d : Gp.Dr} {p : Pl} {q : Bu} {S C : List UInt8} (h : EAt Kp base W eb d p q S C) (ty hi lo sz : Int) (D : ByteArray) (Post : Ending → World → Prop) (d1 d2 : Gp.Dr) (hp1 : d1.phase = 2) (bT bH : Bool) (hT : (ty != 0) = bT) (hH : (hi == 2) = bH) (hd1 : Hid (EAt Kp base W eb d1 p q S C))
    (HK : Hid (∀ W1 p1 q1, EAt Kp base W1 eb d1 p1 q1 S C → Calls Tryz.prog 106 #[.pointer (some ⟨eb, 0, none⟩), .int .i64 lo] W1 fun e w' => e = .returned (.tuple #[]) ∧ Hid (ES Kp base w' eb d2 S C) ∧ Hid (Fr base eb W1 w')))
    (HD : Hid (bT = true → ∀ W1 p1 q1, EAt Kp base W1 eb d2 p1 q1 S C → Fr base eb W W1 → Calls Tryz.prog 107 #[.pointer (some ⟨eb, 0, none⟩), .agg #[.int .i64 ty, .int .i64 hi, .int .i64 lo, .int .i64 sz, .string D]] W1 fun e w' => e = .returned (.tuple #[]) ∧ Post (.returned (.tuple #[])) w'))
    (HJ : Hid (bT = false → bH = true → ∀ W1 p1 q1, EAt Kp base W1 eb d2 p1 q1 S C → Fr base eb W W1 → Calls Tryz.prog 108 #[.pointer (some ⟨eb, 0, none⟩)] W1 fun e w' => e = .returned (.tuple #[]) ∧ Post (.returned (.tuple #[])) w'))
    (HP : Hid (bT = false → bH = false → ∀ W1, ES Kp base W1 eb d2 S C → Fr base eb W W1 → Post (.returned (.tuple #[])) W1)) :
    Calls Tryz.prog 81 #[.pointer (some ⟨eb, 0, none⟩), .agg #[.int .i64 ty, .int .i64 hi, .int .i64 lo, .int .i64 sz, .string D]] W Post := by
  have h1 : Hid True := trivial
  have f1 : Hid (Fr base eb W (W.alloc (.cells #[.int .i64 ty, .int .i64 hi, .int .i64 lo, .int .i64 sz, .string D] 80))) := Fr.alloc h.lt _
  have kF : Hid (Rg.Bk W.heap.size [.int .i64 ty, .int .i64 hi, .int .i64 lo, .int .i64 sz, .string D] 80 (W.alloc (.cells #[.int .i64 ty, .int .i64 hi, .int .i64 lo, .int .i64 sz, .string D] 80))) := Rg.Bk.new rfl
  have hne : Hid (W.heap.size ≠ eb) := fun e => by have := h.bk.lt; omega
  clear h
  replace h1 := Rg.hid (hd1.out.alloc (.cells #[.int .i64 ty, .int .i64 hi, .int .i64 lo, .int .i64 sz, .string D] 80))
  clear hd1
  go_enter Tryz.func81, Tryz.ntmps81
  go_upto_region 1 with fail
  generalize World.alloc _ _ = w1 at *
  obtain ⟨F, hF⟩ : ∃ F, F = W.heap.size := ⟨_, rfl⟩
  rw [← hF] at kF hne ⊢
  replace hF := Rg.hid hF
  have c1 : w1.cell? ⟨eb, 1, none⟩ = some (.int .i64 2) := by rw [← hp1]; exact h1.out.bk.cell 1
  have k2 : w1.cell? ⟨F, 2, none⟩ = some (.int .i64 lo) := kF.out.cell 2
  have e1 : w1.cell? ⟨eb, 1, none⟩ = some (.int .i64 2) := by rw [← hp1]; exact h1.out.bk.cell 1
  go_upto_region 8 with (go_at_call 106; refine (HK.out _ _ _ h1.out).mono ?_; rintro e w3 ⟨rfl, hs3, fr3⟩)
  obtain ⟨p3, q3, h3⟩ := hs3.out
  replace h3 := Rg.hid h3
  have f3 := Rg.hid (f1.out.trans fr3.out)
  have kF3 := Rg.hid (fr3.out.bk kF.out hne.out (by decide))
  have k0 : w3.cell? ⟨F, 0, none⟩ = some (.int .i64 ty) := kF3.out.cell 0
  have k1 : w3.cell? ⟨F, 1, none⟩ = some (.int .i64 hi) := kF3.out.cell 1
  have k3 : w3.cell? ⟨F, 2, none⟩ = some (.int .i64 lo) := kF3.out.cell 2
  have k4 : w3.cell? ⟨F, 3, none⟩ = some (.int .i64 sz) := kF3.out.cell 3
  have k5 : w3.cell? ⟨F, 4, none⟩ = some (.string D) := kF3.out.cell 4
  clear kF kF3 k2 e1 hs3 fr3 HK h1 f1
  cases bT with
  | true =>
    have HD1 := Rg.hid (HD.out rfl w3 p3 q3 h3.out f3.out)
    go_wp2_with (go_at_call 107; refine HD1.out.mono ?_; rintro e w4 ⟨rfl, hp⟩)
    go_end0
    exact hp
  | false =>
    cases bH with
    | true =>
      have HJ1 := Rg.hid (HJ.out rfl rfl w3 p3 q3 h3.out f3.out)
      go_wp2_with (go_at_call 108; refine HJ1.out.mono ?_; rintro e w4 ⟨rfl, hp⟩)
      go_end0
      exact hp
    | false =>
      have hp := HP.out rfl rfl w3 ⟨_, _, h3.out⟩ f3.out
      go_wp2
      go_end0
      exact hp
set_option maxHeartbeats 2000000 in
set_option maxRecDepth 100000 in
theorem takeOther_opens {Kp : Nat → Prop} {base eb : Nat} {W : World} {d : Gp.Dr} {p : Pl} {q : Bu} {S C : List UInt8} (h : EAt Kp base W eb d p q S C) (ty hi lo sz : Int) (D : ByteArray) (Post : Ending → World → Prop) (d1 d2 : Gp.Dr) (hp1 : d1.phase = 2) (bT bH : Bool) (hT : (ty != 0) = bT) (hH : (hi == 2) = bH) (hp0 : d.phase = 1) (hs0 : d.step = 2)
    (HO : Hid (∀ W1, EAt Kp base W1 eb d p q S C → Calls Tryz.prog 105 #[.pointer (some ⟨eb, 0, none⟩)] W1 fun e w' => e = .returned (.tuple #[]) ∧ Hid (ES Kp base w' eb d1 S C) ∧ Hid (Fr base eb W1 w')))
    (HK : Hid (∀ W1 p1 q1, EAt Kp base W1 eb d1 p1 q1 S C → Calls Tryz.prog 106 #[.pointer (some ⟨eb, 0, none⟩), .int .i64 lo] W1 fun e w' => e = .returned (.tuple #[]) ∧ Hid (ES Kp base w' eb d2 S C) ∧ Hid (Fr base eb W1 w')))
    (HD : Hid (bT = true → ∀ W1 p1 q1, EAt Kp base W1 eb d2 p1 q1 S C → Fr base eb W W1 → Calls Tryz.prog 107 #[.pointer (some ⟨eb, 0, none⟩), .agg #[.int .i64 ty, .int .i64 hi, .int .i64 lo, .int .i64 sz, .string D]] W1 fun e w' => e = .returned (.tuple #[]) ∧ Post (.returned (.tuple #[])) w'))
    (HJ : Hid (bT = false → bH = true → ∀ W1 p1 q1, EAt Kp base W1 eb d2 p1 q1 S C → Fr base eb W W1 → Calls Tryz.prog 108 #[.pointer (some ⟨eb, 0, none⟩)] W1 fun e w' => e = .returned (.tuple #[]) ∧ Post (.returned (.tuple #[])) w'))
    (HP : Hid (bT = false → bH = false → ∀ W1, ES Kp base W1 eb d2 S C → Fr base eb W W1 → Post (.returned (.tuple #[])) W1)) :
    Calls Tryz.prog 81 #[.pointer (some ⟨eb, 0, none⟩), .agg #[.int .i64 ty, .int .i64 hi, .int .i64 lo, .int .i64 sz, .string D]] W Post := by
  have h1 := Rg.hid (h.alloc (.cells #[.int .i64 ty, .int .i64 hi, .int .i64 lo, .int .i64 sz, .string D] 80))
  have f1 : Hid (Fr base eb W (W.alloc (.cells #[.int .i64 ty, .int .i64 hi, .int .i64 lo, .int .i64 sz, .string D] 80))) := Fr.alloc h.lt _
  have kF : Hid (Rg.Bk W.heap.size [.int .i64 ty, .int .i64 hi, .int .i64 lo, .int .i64 sz, .string D] 80 (W.alloc (.cells #[.int .i64 ty, .int .i64 hi, .int .i64 lo, .int .i64 sz, .string D] 80))) := Rg.Bk.new rfl
  have hne : Hid (W.heap.size ≠ eb) := fun e => by have := h.bk.lt; omega
  clear h
  go_enter Tryz.func81, Tryz.ntmps81
  go_upto_region 1 with fail
  generalize World.alloc _ _ = w1 at *
  obtain ⟨F, hF⟩ : ∃ F, F = W.heap.size := ⟨_, rfl⟩
  rw [← hF] at kF hne ⊢
  replace hF := Rg.hid hF
  have c1 : w1.cell? ⟨eb, 1, none⟩ = some (.int .i64 1) := by rw [← hp0]; exact h1.out.bk.cell 1
  have c3 : w1.cell? ⟨eb, 3, none⟩ = some (.int .i64 2) := by rw [← hs0]; exact h1.out.bk.cell 3
  go_upto_region 3 with (go_at_call 105; refine (HO.out _ h1.out).mono ?_; rintro e w2 ⟨rfl, hs2, fr2⟩)
  obtain ⟨p2, q2, h2⟩ := hs2.out
  replace h2 := Rg.hid h2
  have f2 := Rg.hid (f1.out.trans fr2.out)
  have kF2 := Rg.hid (fr2.out.bk kF.out hne.out (by decide))
  clear kF c1 c3 hs2 fr2 h1 f1 HO
  have kF := kF2
  clear kF2
  have k2 : w2.cell? ⟨F, 2, none⟩ = some (.int .i64 lo) := kF.out.cell 2
  have e1 : w2.cell? ⟨eb, 1, none⟩ = some (.int .i64 2) := by rw [← hp1]; exact h2.out.bk.cell 1
  go_upto_region 8 with (go_at_call 106; refine (HK.out _ _ _ h2.out).mono ?_; rintro e w3 ⟨rfl, hs3, fr3⟩)
  obtain ⟨p3, q3, h3⟩ := hs3.out
  replace h3 := Rg.hid h3
  have f3 := Rg.hid (f2.out.trans fr3.out)
  have kF3 := Rg.hid (fr3.out.bk kF.out hne.out (by decide))
  have k0 : w3.cell? ⟨F, 0, none⟩ = some (.int .i64 ty) := kF3.out.cell 0
  have k1 : w3.cell? ⟨F, 1, none⟩ = some (.int .i64 hi) := kF3.out.cell 1
  have k3 : w3.cell? ⟨F, 2, none⟩ = some (.int .i64 lo) := kF3.out.cell 2
  have k4 : w3.cell? ⟨F, 3, none⟩ = some (.int .i64 sz) := kF3.out.cell 3
  have k5 : w3.cell? ⟨F, 4, none⟩ = some (.string D) := kF3.out.cell 4
  clear kF kF3 k2 e1 hs3 fr3 HK h2 f2
  cases bT with
  | true =>
    have HD1 := Rg.hid (HD.out rfl w3 p3 q3 h3.out f3.out)
    go_wp2_with (go_at_call 107; refine HD1.out.mono ?_; rintro e w4 ⟨rfl, hp⟩)
    go_end0
    exact hp
  | false =>
    cases bH with
    | true =>
      have HJ1 := Rg.hid (HJ.out rfl rfl w3 p3 q3 h3.out f3.out)
      go_wp2_with (go_at_call 108; refine HJ1.out.mono ?_; rintro e w4 ⟨rfl, hp⟩)
      go_end0
      exact hp
    | false =>
      have hp := HP.out rfl rfl w3 ⟨_, _, h3.out⟩ f3.out
      go_wp2
      go_end0
      exact hp
set_option maxHeartbeats 2000000 in
set_option maxRecDepth 100000 in
theorem takeOther_closing {Kp : Nat → Prop} {base eb : Nat} {W : World} {d : Gp.Dr} {p : Pl} {q : Bu} {S C : List UInt8} (h : EAt Kp base W eb d p q S C) (ty hi lo sz : Int) (D : ByteArray) (Post : Ending → World → Prop) (hp0 : d.phase = 3)
    (HS : Hid (∀ W1, EAt Kp base W1 eb d p q S C → Fr base eb W W1 → Calls Tryz.prog 46 #[.pointer (some ⟨eb, 0, none⟩)] W1 fun e w' => e = .returned (.tuple #[]) ∧ Post (.returned (.tuple #[])) w')) :
    Calls Tryz.prog 81 #[.pointer (some ⟨eb, 0, none⟩), .agg #[.int .i64 ty, .int .i64 hi, .int .i64 lo, .int .i64 sz, .string D]] W Post := by
  have h1 := Rg.hid (h.alloc (.cells #[.int .i64 ty, .int .i64 hi, .int .i64 lo, .int .i64 sz, .string D] 80))
  have f1 : Hid (Fr base eb W (W.alloc (.cells #[.int .i64 ty, .int .i64 hi, .int .i64 lo, .int .i64 sz, .string D] 80))) := Fr.alloc h.lt _
  have kF : Hid (Rg.Bk W.heap.size [.int .i64 ty, .int .i64 hi, .int .i64 lo, .int .i64 sz, .string D] 80 (W.alloc (.cells #[.int .i64 ty, .int .i64 hi, .int .i64 lo, .int .i64 sz, .string D] 80))) := Rg.Bk.new rfl
  have hne : Hid (W.heap.size ≠ eb) := fun e => by have := h.bk.lt; omega
  clear h
  go_enter Tryz.func81, Tryz.ntmps81
  go_upto_region 1 with fail
  generalize World.alloc _ _ = w1 at *
  obtain ⟨F, hF⟩ : ∃ F, F = W.heap.size := ⟨_, rfl⟩
  rw [← hF] at kF hne ⊢
  replace hF := Rg.hid hF
  have c1 : w1.cell? ⟨eb, 1, none⟩ = some (.int .i64 3) := by rw [← hp0]; exact h1.out.bk.cell 1
  clear kF hne
  go_wp2_with (go_at_call 46; refine (HS.out _ h1.out f1.out).mono ?_; rintro e w4 ⟨rfl, hp⟩)
  go_end0
  exact hp
set_option maxHeartbeats 2000000 in
set_option maxRecDepth 100000 in
theorem takeOther_opening {Kp : Nat → Prop} {base eb : Nat} {W : World} {d : Gp.Dr} {p : Pl} {q : Bu} {S C : List UInt8} (h : EAt Kp base W eb d p q S C) (ty hi lo sz : Int) (D : ByteArray) (Post : Ending → World → Prop) (hp0 : d.phase = 1) (hs0 : (d.step == 2) = false)
    (HP : Hid (∀ W1, ES Kp base W1 eb d S C → Fr base eb W W1 → Post (.returned (.tuple #[])) W1)) :
    Calls Tryz.prog 81 #[.pointer (some ⟨eb, 0, none⟩), .agg #[.int .i64 ty, .int .i64 hi, .int .i64 lo, .int .i64 sz, .string D]] W Post := by
  have h1 := Rg.hid (h.alloc (.cells #[.int .i64 ty, .int .i64 hi, .int .i64 lo, .int .i64 sz, .string D] 80))
  have f1 : Hid (Fr base eb W (W.alloc (.cells #[.int .i64 ty, .int .i64 hi, .int .i64 lo, .int .i64 sz, .string D] 80))) := Fr.alloc h.lt _
  have kF : Hid (Rg.Bk W.heap.size [.int .i64 ty, .int .i64 hi, .int .i64 lo, .int .i64 sz, .string D] 80 (W.alloc (.cells #[.int .i64 ty, .int .i64 hi, .int .i64 lo, .int .i64 sz, .string D] 80))) := Rg.Bk.new rfl
  have hne : Hid (W.heap.size ≠ eb) := fun e => by have := h.bk.lt; omega
  clear h
  go_enter Tryz.func81, Tryz.ntmps81
  go_upto_region 1 with fail
  generalize World.alloc _ _ = w1 at *
  obtain ⟨F, hF⟩ : ∃ F, F = W.heap.size := ⟨_, rfl⟩
  rw [← hF] at kF hne ⊢
  replace hF := Rg.hid hF
  have c1 : w1.cell? ⟨eb, 1, none⟩ = some (.int .i64 1) := by rw [← hp0]; exact h1.out.bk.cell 1
  have c3 : w1.cell? ⟨eb, 3, none⟩ = some (.int .i64 d.step) := h1.out.bk.cell 3
  have hp := HP.out w1 ⟨_, _, h1.out⟩ f1.out
  clear kF hne h1 f1 HP
  generalize d.step = st at *
  go_wp2
  go_end0
  exact hp
set_option maxHeartbeats 2000000 in
set_option maxRecDepth 100000 in
theorem takeOther_over {Kp : Nat → Prop} {base eb : Nat} {W : World} {d : Gp.Dr} {p : Pl} {q : Bu} {S C : List UInt8} (h : EAt Kp base W eb d p q S C) (ty hi lo sz : Int) (D : ByteArray) (Post : Ending → World → Prop) (ph : Int) (hp0 : d.phase = ph) (hph : ph = 4 ∨ ph = 5)
    (HP : Hid (∀ W1, ES Kp base W1 eb d S C → Fr base eb W W1 → Post (.returned (.tuple #[])) W1)) :
    Calls Tryz.prog 81 #[.pointer (some ⟨eb, 0, none⟩), .agg #[.int .i64 ty, .int .i64 hi, .int .i64 lo, .int .i64 sz, .string D]] W Post := by
  rcases hph with rfl | rfl
  · have h1 := Rg.hid (h.alloc (.cells #[.int .i64 ty, .int .i64 hi, .int .i64 lo, .int .i64 sz, .string D] 80))
    have f1 : Hid (Fr base eb W (W.alloc (.cells #[.int .i64 ty, .int .i64 hi, .int .i64 lo, .int .i64 sz, .string D] 80))) := Fr.alloc h.lt _
    have kF : Hid (Rg.Bk W.heap.size [.int .i64 ty, .int .i64 hi, .int .i64 lo, .int .i64 sz, .string D] 80 (W.alloc (.cells #[.int .i64 ty, .int .i64 hi, .int .i64 lo, .int .i64 sz, .string D] 80))) := Rg.Bk.new rfl
    have hne : Hid (W.heap.size ≠ eb) := fun e => by have := h.bk.lt; omega
    clear h
    go_enter Tryz.func81, Tryz.ntmps81
    go_upto_region 1 with fail
    generalize World.alloc _ _ = w1 at *
    obtain ⟨F, hF⟩ : ∃ F, F = W.heap.size := ⟨_, rfl⟩
    rw [← hF] at kF hne ⊢
    replace hF := Rg.hid hF
    have c1 : w1.cell? ⟨eb, 1, none⟩ = some (.int .i64 4) := by rw [← hp0]; exact h1.out.bk.cell 1
    have hp := HP.out w1 ⟨_, _, h1.out⟩ f1.out
    clear kF hne h1 f1 HP
    go_wp2
    go_end0
    exact hp
  · have h1 := Rg.hid (h.alloc (.cells #[.int .i64 ty, .int .i64 hi, .int .i64 lo, .int .i64 sz, .string D] 80))
    have f1 : Hid (Fr base eb W (W.alloc (.cells #[.int .i64 ty, .int .i64 hi, .int .i64 lo, .int .i64 sz, .string D] 80))) := Fr.alloc h.lt _
    have kF : Hid (Rg.Bk W.heap.size [.int .i64 ty, .int .i64 hi, .int .i64 lo, .int .i64 sz, .string D] 80 (W.alloc (.cells #[.int .i64 ty, .int .i64 hi, .int .i64 lo, .int .i64 sz, .string D] 80))) := Rg.Bk.new rfl
    have hne : Hid (W.heap.size ≠ eb) := fun e => by have := h.bk.lt; omega
    clear h
    go_enter Tryz.func81, Tryz.ntmps81
    go_upto_region 1 with fail
    generalize World.alloc _ _ = w1 at *
    obtain ⟨F, hF⟩ : ∃ F, F = W.heap.size := ⟨_, rfl⟩
    rw [← hF] at kF hne ⊢
    replace hF := Rg.hid hF
    have c1 : w1.cell? ⟨eb, 1, none⟩ = some (.int .i64 5) := by rw [← hp0]; exact h1.out.bk.cell 1
    have hp := HP.out w1 ⟨_, _, h1.out⟩ f1.out
    clear kF hne h1 f1 HP
    go_wp2
    go_end0
    exact hp
theorem EPost.parts {Kp : Nat → Prop} {base eb : Nat} {W : World} {d : Gp.Dr} {S C : List UInt8} {F : Nat} {args : Array Value} (h : Calls Tryz.prog F args W fun e w' => EPost Kp base eb W d S C e w') : Calls Tryz.prog F args W fun e w' => e = .returned (.tuple #[]) ∧ Hid (ES Kp base w' eb d S C) ∧ Hid (Fr base eb W w') := h.mono fun _ _ hp => ⟨hp.1, hp.2.1, hp.2.2⟩
/-- what comes of a packet that is none of the opening's, nor a close, in Running -/
def Gp.others (d : Gp.Dr) (f : Gf.Fr) : Gp.Dr × List UInt8 × List UInt8 :=
  if f.ty = 0 then (if f.hi = 2 then ((Gp.rejected (Gp.acked d f.lo)).1, (Gp.rejected (Gp.acked d f.lo)).2, []) else (Gp.acked d f.lo, [], [])) else Gp.datum (Gp.acked d f.lo) f.hi f.data
theorem takes2_others {d : Gp.Dr} (h : d.phase = 2) (f : Gf.Fr) : Gp.takes2 d f = Gp.others d f := by
  rw [Gp.takes2_run h]
  unfold Gp.others Gp.rejected Gp.datum
  by_cases ht : f.ty = 0
  · rw [if_pos ht, if_pos ht]
    by_cases hh : f.hi = 2
    · rw [if_pos hh]
      by_cases hw : (Gp.acked d f.lo).wait % 2 = 1
      · rw [if_pos (.inr hw), if_pos hw]
      · rw [if_neg (by omega), if_neg hw]
    · rw [if_neg hh, if_pos (.inl hh)]
  · rw [if_neg ht, if_neg ht]
end Go.Proofs.YtfiffbohhhehkaaGreat

namespace Go.Proofs.YtfiffbohhhehkaaGreat
open Go.RowKit
theorem takeRun {Kp : Nat → Prop} {base eb : Nat} {W : World} {d1 : Gp.Dr} {S C : List UInt8} (ty hi lo sz : Int) (D : ByteArray) (hb : Gp.base (Gp.acked d1 lo)) (hr : Gp.runs (Gp.acked d1 lo)) (hlen : S.length + 40000 ≤ 140737488355328) (hlc : C.length + D.size ≤ 140737488355328) :
    (Hid ((ty != 0) = true → ∀ W1 p1 q1, EAt Kp base W1 eb (Gp.acked d1 lo) p1 q1 S C → Fr base eb W W1 → Calls Tryz.prog 107 #[.pointer (some ⟨eb, 0, none⟩), .agg #[.int .i64 ty, .int .i64 hi, .int .i64 lo, .int .i64 sz, .string D]] W1 fun e w' => e = .returned (.tuple #[]) ∧ EPost Kp base eb W (Gp.others d1 ⟨ty, hi, lo, sz, D.data.toList⟩).1 (S ++ (Gp.others d1 ⟨ty, hi, lo, sz, D.data.toList⟩).2.1) (C ++ (Gp.others d1 ⟨ty, hi, lo, sz, D.data.toList⟩).2.2) (.returned (.tuple #[])) w')) ∧
    (Hid ((ty != 0) = false → (hi == 2) = true → ∀ W1 p1 q1, EAt Kp base W1 eb (Gp.acked d1 lo) p1 q1 S C → Fr base eb W W1 → Calls Tryz.prog 108 #[.pointer (some ⟨eb, 0, none⟩)] W1 fun e w' => e = .returned (.tuple #[]) ∧ EPost Kp base eb W (Gp.others d1 ⟨ty, hi, lo, sz, D.data.toList⟩).1 (S ++ (Gp.others d1 ⟨ty, hi, lo, sz, D.data.toList⟩).2.1) (C ++ (Gp.others d1 ⟨ty, hi, lo, sz, D.data.toList⟩).2.2) (.returned (.tuple #[])) w')) ∧
    (Hid ((ty != 0) = false → (hi == 2) = false → ∀ W1, ES Kp base W1 eb (Gp.acked d1 lo) S C → Fr base eb W W1 → EPost Kp base eb W (Gp.others d1 ⟨ty, hi, lo, sz, D.data.toList⟩).1 (S ++ (Gp.others d1 ⟨ty, hi, lo, sz, D.data.toList⟩).2.1) (C ++ (Gp.others d1 ⟨ty, hi, lo, sz, D.data.toList⟩).2.2) (.returned (.tuple #[])) W1)) := by
  refine ⟨fun ht W1 p1 q1 h1 f1 => ?_, fun ht hh W1 p1 q1 h1 f1 => ?_, fun ht hh W1 h1 f1 => ?_⟩
  · have ht : ¬ ty = 0 := by simpa using ht
    rw [show Gp.others d1 ⟨ty, hi, lo, sz, D.data.toList⟩ = Gp.datum (Gp.acked d1 lo) hi D.data.toList from if_neg ht]
    exact EPost.go f1 (takeData_any h1 ty hi lo sz D hb.2.2.2.2.2.1 hb.2.2.2.2.2.2.1 (by omega) hlc)
  · have ht : ty = 0 := by simpa using ht
    have hh : hi = 2 := by simpa using hh
    rw [show Gp.others d1 ⟨ty, hi, lo, sz, D.data.toList⟩ = ((Gp.rejected (Gp.acked d1 lo)).1, (Gp.rejected (Gp.acked d1 lo)).2, []) from by unfold Gp.others; rw [if_pos ht, if_pos hh]]
    dsimp only
    rw [List.append_nil]
    exact EPost.go f1 (takeReject_any h1 hb hr hlen)
  · have ht : ty = 0 := by simpa using ht
    have hh : ¬ hi = 2 := by simpa using hh
    rw [show Gp.others d1 ⟨ty, hi, lo, sz, D.data.toList⟩ = (Gp.acked d1 lo, [], []) from by unfold Gp.others; rw [if_pos ht, if_neg hh]]
    dsimp only
    rw [List.append_nil, List.append_nil]
    exact ⟨rfl, h1, f1⟩
theorem takeOther_any {Kp : Nat → Prop} {base eb : Nat} {W : World} {d : Gp.Dr} {p : Pl} {q : Bu} {S C : List UInt8} (h : EAt Kp base W eb d p q S C) (hr : Gp.right d) (ty hi lo sz : Int) (D : ByteArray) (hlen : S.length + 40000 ≤ 140737488355328) (hlc : C.length + D.size ≤ 140737488355328) :
    Calls Tryz.prog 81 #[.pointer (some ⟨eb, 0, none⟩), .agg #[.int .i64 ty, .int .i64 hi, .int .i64 lo, .int .i64 sz, .string D]] W fun e w' => EPost Kp base eb W (Gp.takes2 d ⟨ty, hi, lo, sz, D.data.toList⟩).1 (S ++ (Gp.takes2 d ⟨ty, hi, lo, sz, D.data.toList⟩).2.1) (C ++ (Gp.takes2 d ⟨ty, hi, lo, sz, D.data.toList⟩).2.2) e w' := by
  have hb := hr.1
  by_cases p2 : d.phase = 2
  · have hrun : Gp.runs d := by
      rcases hr.2 with ⟨h, _⟩ | ⟨_, h⟩ | h | h | h
      · omega
      · exact h
      all_goals omega
    obtain ⟨ab, ar⟩ := Gp.right_acked hb hrun lo
    rw [takes2_others p2]
    obtain ⟨HD, HJ, HP⟩ := takeRun (base := base) (eb := eb) (W := W) (d1 := d) (S := S) (C := C) ty hi lo sz D ab ar hlen hlc
    exact takeOther_run h ty hi lo sz D _ d (Gp.acked d lo) p2 _ _ rfl rfl h (fun W1 p1 q1 hh => EPost.parts (acknowledge_any hh lo)) HD HJ HP
  by_cases p1 : d.phase = 1
  · by_cases s2 : d.step = 2
    · have ho := Gp.right_open hb
      have hp1 : (Gp.open_ d).phase = 2 := rfl
      have hrun : Gp.runs (Gp.open_ d) := by
        rcases ho.2 with ⟨h, _⟩ | ⟨_, h⟩ | h | h | h
        · rw [hp1] at h; omega
        · exact h
        all_goals (rw [hp1] at h; omega)
      obtain ⟨ab, ar⟩ := Gp.right_acked ho.1 hrun lo
      have e : Gp.takes2 d ⟨ty, hi, lo, sz, D.data.toList⟩ = Gp.takes2 (Gp.open_ d) ⟨ty, hi, lo, sz, D.data.toList⟩ := by
        have hc : d.phase = 1 ∧ d.step = 2 := ⟨p1, s2⟩
        have hc2 : ¬ ((Gp.open_ d).phase = 1 ∧ (Gp.open_ d).step = 2) := by rw [hp1]; omega
        unfold Gp.takes2
        simp only [if_pos hc, if_neg hc2]
      rw [e, takes2_others hp1]
      obtain ⟨HD, HJ, HP⟩ := takeRun (base := base) (eb := eb) (W := W) (d1 := Gp.open_ d) (S := S) (C := C) ty hi lo sz D ab ar hlen hlc
      exact takeOther_opens h ty hi lo sz D _ (Gp.open_ d) (Gp.acked (Gp.open_ d) lo) hp1 _ _ rfl rfl p1 s2 (fun W1 hh => EPost.parts (open_any hh hb.2.2.2.1 hb.2.2.2.2.1)) (fun W1 p1 q1 hh => EPost.parts (acknowledge_any hh lo)) HD HJ HP
    · have e : Gp.takes2 d ⟨ty, hi, lo, sz, D.data.toList⟩ = (d, [], []) := by
        have hc : ¬ (d.phase = 1 ∧ d.step = 2) := fun x => s2 x.2
        have h3 : ¬ d.phase = 3 := by omega
        have h2 : d.phase ≠ 2 := p2
        unfold Gp.takes2
        simp only [if_neg hc, if_neg h3, if_pos h2]
      rw [e]
      dsimp only
      rw [List.append_nil, List.append_nil]
      exact takeOther_opening h ty hi lo sz D _ p1 (by simp [s2]) fun W1 h1 f1 => ⟨rfl, h1, f1⟩
  by_cases p3 : d.phase = 3
  · have e : Gp.takes2 d ⟨ty, hi, lo, sz, D.data.toList⟩ = (d, Gp.ctrl 1 0, []) := by
      have hc : ¬ (d.phase = 1 ∧ d.step = 2) := fun x => p1 x.1
      unfold Gp.takes2
      simp only [if_neg hc, if_pos p3]
    rw [e]
    dsimp only
    rw [List.append_nil]
    exact takeOther_closing h ty hi lo sz D _ p3 fun W1 h1 f1 => EPost.go f1 (sayClose_any h1 (by omega))
  · have e : Gp.takes2 d ⟨ty, hi, lo, sz, D.data.toList⟩ = (d, [], []) := by
      have hc : ¬ (d.phase = 1 ∧ d.step = 2) := fun x => p1 x.1
      have h2 : d.phase ≠ 2 := p2
      unfold Gp.takes2
      simp only [if_neg hc, if_neg p3, if_pos h2]
    rw [e]
    dsimp only
    rw [List.append_nil, List.append_nil]
    refine takeOther_over h ty hi lo sz D _ d.phase rfl ?_ fun W1 h1 f1 => ⟨rfl, h1, f1⟩
    rcases hr.2 with ⟨h, _⟩ | ⟨h, _⟩ | h | h | h
    all_goals omega
set_option maxHeartbeats 2000000 in
set_option maxRecDepth 100000 in
theorem take_opening {Kp : Nat → Prop} {base eb : Nat} {W : World} {d : Gp.Dr} {p : Pl} {q : Bu} {S C : List UInt8} (h : EAt Kp base W eb d p q S C) (ty hi lo sz : Int) (D : ByteArray) (Post : Ending → World → Prop) (st : Int) (HO : Hid (∀ W1, Calls Tryz.prog 78 #[.agg #[.int .i64 ty, .int .i64 hi, .int .i64 lo, .int .i64 sz, .string D]] W1 fun e w' => e = .returned (.tuple #[.int .i64 st, .bool true]) ∧ Below W1.heap.size W1 w'))
    (HS : Hid (∀ W1, EAt Kp base W1 eb d p q S C → Fr base eb W W1 → Calls Tryz.prog 79 #[.pointer (some ⟨eb, 0, none⟩), .int .i64 st, .int .i64 lo] W1 fun e w' => e = .returned (.tuple #[]) ∧ Post (.returned (.tuple #[])) w')) :
    Calls Tryz.prog 58 #[.pointer (some ⟨eb, 0, none⟩), .agg #[.int .i64 ty, .int .i64 hi, .int .i64 lo, .int .i64 sz, .string D]] W Post := by
  have h1 := Rg.hid (h.alloc (.cells #[.int .i64 ty, .int .i64 hi, .int .i64 lo, .int .i64 sz, .string D] 80))
  have f1 : Hid (Fr base eb W (W.alloc (.cells #[.int .i64 ty, .int .i64 hi, .int .i64 lo, .int .i64 sz, .string D] 80))) := Fr.alloc h.lt _
  have kF : Hid (Rg.Bk W.heap.size [.int .i64 ty, .int .i64 hi, .int .i64 lo, .int .i64 sz, .string D] 80 (W.alloc (.cells #[.int .i64 ty, .int .i64 hi, .int .i64 lo, .int .i64 sz, .string D] 80))) := Rg.Bk.new rfl
  clear h
  go_enter Tryz.func58, Tryz.ntmps58
  go_upto_region 1 with fail
  generalize World.alloc _ _ = w1 at *
  obtain ⟨F, hF⟩ : ∃ F, F = W.heap.size := ⟨_, rfl⟩
  rw [← hF] at kF ⊢
  replace hF := Rg.hid hF
  have k0 : w1.cell? ⟨F, 0, none⟩ = some (.int .i64 ty) := kF.out.cell 0
  have k1 : w1.cell? ⟨F, 1, none⟩ = some (.int .i64 hi) := kF.out.cell 1
  have k2 : w1.cell? ⟨F, 2, none⟩ = some (.int .i64 lo) := kF.out.cell 2
  have k3 : w1.cell? ⟨F, 3, none⟩ = some (.int .i64 sz) := kF.out.cell 3
  have k4 : w1.cell? ⟨F, 4, none⟩ = some (.string D) := kF.out.cell 4
  go_upto_region 3 with (go_at_call 78; refine (HO.out _).mono ?_; rintro e w2 ⟨rfl, b2⟩)
  have h2 := Rg.hid (h1.out.below b2)
  have f2 := Rg.hid (f1.out.trans (Fr.of (eb := eb) b2 h1.out.lt))
  have kF2 := Rg.hid (kF.out.below b2 kF.out.lt)
  clear k0 k1 k2 k3 k4 h1 f1 kF HO b2
  have k0 : w2.cell? ⟨F, 0, none⟩ = some (.int .i64 ty) := kF2.out.cell 0
  have k1 : w2.cell? ⟨F, 1, none⟩ = some (.int .i64 hi) := kF2.out.cell 1
  have k2 : w2.cell? ⟨F, 2, none⟩ = some (.int .i64 lo) := kF2.out.cell 2
  have k3 : w2.cell? ⟨F, 3, none⟩ = some (.int .i64 sz) := kF2.out.cell 3
  have k4 : w2.cell? ⟨F, 4, none⟩ = some (.string D) := kF2.out.cell 4
  clear kF2
  go_wp2_with (go_at_call 79; refine (HS.out _ h2.out f2.out).mono ?_; rintro e w4 ⟨rfl, hp⟩)
  go_end0
  exact hp
set_option maxHeartbeats 2000000 in
set_option maxRecDepth 100000 in
theorem take_close {Kp : Nat → Prop} {base eb : Nat} {W : World} {d : Gp.Dr} {p : Pl} {q : Bu} {S C : List UInt8} (h : EAt Kp base W eb d p q S C) (ty hi lo sz : Int) (D : ByteArray) (Post : Ending → World → Prop) (ht : ty = 0) (hh : hi = 1) (HO : Hid (∀ W1, Calls Tryz.prog 78 #[.agg #[.int .i64 ty, .int .i64 hi, .int .i64 lo, .int .i64 sz, .string D]] W1 fun e w' => e = .returned (.tuple #[.int .i64 0, .bool false]) ∧ Below W1.heap.size W1 w'))
    (HS : Hid (∀ W1, EAt Kp base W1 eb d p q S C → Fr base eb W W1 → Calls Tryz.prog 80 #[.pointer (some ⟨eb, 0, none⟩)] W1 fun e w' => e = .returned (.tuple #[]) ∧ Post (.returned (.tuple #[])) w')) :
    Calls Tryz.prog 58 #[.pointer (some ⟨eb, 0, none⟩), .agg #[.int .i64 ty, .int .i64 hi, .int .i64 lo, .int .i64 sz, .string D]] W Post := by
  subst ht
  subst hh
  have h1 := Rg.hid (h.alloc (.cells #[.int .i64 0, .int .i64 1, .int .i64 lo, .int .i64 sz, .string D] 80))
  have f1 : Hid (Fr base eb W (W.alloc (.cells #[.int .i64 0, .int .i64 1, .int .i64 lo, .int .i64 sz, .string D] 80))) := Fr.alloc h.lt _
  have kF : Hid (Rg.Bk W.heap.size [.int .i64 0, .int .i64 1, .int .i64 lo, .int .i64 sz, .string D] 80 (W.alloc (.cells #[.int .i64 0, .int .i64 1, .int .i64 lo, .int .i64 sz, .string D] 80))) := Rg.Bk.new rfl
  clear h
  go_enter Tryz.func58, Tryz.ntmps58
  go_upto_region 1 with fail
  generalize World.alloc _ _ = w1 at *
  obtain ⟨F, hF⟩ : ∃ F, F = W.heap.size := ⟨_, rfl⟩
  rw [← hF] at kF ⊢
  replace hF := Rg.hid hF
  have k0 : w1.cell? ⟨F, 0, none⟩ = some (.int .i64 0) := kF.out.cell 0
  have k1 : w1.cell? ⟨F, 1, none⟩ = some (.int .i64 1) := kF.out.cell 1
  have k2 : w1.cell? ⟨F, 2, none⟩ = some (.int .i64 lo) := kF.out.cell 2
  have k3 : w1.cell? ⟨F, 3, none⟩ = some (.int .i64 sz) := kF.out.cell 3
  have k4 : w1.cell? ⟨F, 4, none⟩ = some (.string D) := kF.out.cell 4
  go_upto_region 3 with (go_at_call 78; refine (HO.out _).mono ?_; rintro e w2 ⟨rfl, b2⟩)
  have h2 := Rg.hid (h1.out.below b2)
  have f2 := Rg.hid (f1.out.trans (Fr.of (eb := eb) b2 h1.out.lt))
  have kF2 := Rg.hid (kF.out.below b2 kF.out.lt)
  clear k0 k1 k2 k3 k4 h1 f1 kF HO b2
  have k0 : w2.cell? ⟨F, 0, none⟩ = some (.int .i64 0) := kF2.out.cell 0
  have k1 : w2.cell? ⟨F, 1, none⟩ = some (.int .i64 1) := kF2.out.cell 1
  have k2 : w2.cell? ⟨F, 2, none⟩ = some (.int .i64 lo) := kF2.out.cell 2
  have k3 : w2.cell? ⟨F, 3, none⟩ = some (.int .i64 sz) := kF2.out.cell 3
  have k4 : w2.cell? ⟨F, 4, none⟩ = some (.string D) := kF2.out.cell 4
  clear kF2
  go_wp2_with (go_at_call 80; refine (HS.out _ h2.out f2.out).mono ?_; rintro e w4 ⟨rfl, hp⟩)
  go_end0
  exact hp
set_option maxHeartbeats 2000000 in
set_option maxRecDepth 100000 in
theorem take_other {Kp : Nat → Prop} {base eb : Nat} {W : World} {d : Gp.Dr} {p : Pl} {q : Bu} {S C : List UInt8} (h : EAt Kp base W eb d p q S C) (ty hi lo sz : Int) (D : ByteArray) (Post : Ending → World → Prop) (hb : (ty == 0 && hi == 1) = false) (HO : Hid (∀ W1, Calls Tryz.prog 78 #[.agg #[.int .i64 ty, .int .i64 hi, .int .i64 lo, .int .i64 sz, .string D]] W1 fun e w' => e = .returned (.tuple #[.int .i64 0, .bool false]) ∧ Below W1.heap.size W1 w'))
    (HS : Hid (∀ W1, EAt Kp base W1 eb d p q S C → Fr base eb W W1 → Calls Tryz.prog 81 #[.pointer (some ⟨eb, 0, none⟩), .agg #[.int .i64 ty, .int .i64 hi, .int .i64 lo, .int .i64 sz, .string D]] W1 fun e w' => e = .returned (.tuple #[]) ∧ Post (.returned (.tuple #[])) w')) :
    Calls Tryz.prog 58 #[.pointer (some ⟨eb, 0, none⟩), .agg #[.int .i64 ty, .int .i64 hi, .int .i64 lo, .int .i64 sz, .string D]] W Post := by
  cases ht : (ty == 0) with
  | false =>
    have h1 := Rg.hid (h.alloc (.cells #[.int .i64 ty, .int .i64 hi, .int .i64 lo, .int .i64 sz, .string D] 80))
    have f1 : Hid (Fr base eb W (W.alloc (.cells #[.int .i64 ty, .int .i64 hi, .int .i64 lo, .int .i64 sz, .string D] 80))) := Fr.alloc h.lt _
    have kF : Hid (Rg.Bk W.heap.size [.int .i64 ty, .int .i64 hi, .int .i64 lo, .int .i64 sz, .string D] 80 (W.alloc (.cells #[.int .i64 ty, .int .i64 hi, .int .i64 lo, .int .i64 sz, .string D] 80))) := Rg.Bk.new rfl
    clear h
    go_enter Tryz.func58, Tryz.ntmps58
    go_upto_region 1 with fail
    generalize World.alloc _ _ = w1 at *
    obtain ⟨F, hF⟩ : ∃ F, F = W.heap.size := ⟨_, rfl⟩
    rw [← hF] at kF ⊢
    replace hF := Rg.hid hF
    have k0 : w1.cell? ⟨F, 0, none⟩ = some (.int .i64 ty) := kF.out.cell 0
    have k1 : w1.cell? ⟨F, 1, none⟩ = some (.int .i64 hi) := kF.out.cell 1
    have k2 : w1.cell? ⟨F, 2, none⟩ = some (.int .i64 lo) := kF.out.cell 2
    have k3 : w1.cell? ⟨F, 3, none⟩ = some (.int .i64 sz) := kF.out.cell 3
    have k4 : w1.cell? ⟨F, 4, none⟩ = some (.string D) := kF.out.cell 4
    go_upto_region 3 with (go_at_call 78; refine (HO.out _).mono ?_; rintro e w2 ⟨rfl, b2⟩)
    have h2 := Rg.hid (h1.out.below b2)
    have f2 := Rg.hid (f1.out.trans (Fr.of (eb := eb) b2 h1.out.lt))
    have kF2 := Rg.hid (kF.out.below b2 kF.out.lt)
    clear k0 k1 k2 k3 k4 h1 f1 kF HO b2
    have k0 : w2.cell? ⟨F, 0, none⟩ = some (.int .i64 ty) := kF2.out.cell 0
    have k1 : w2.cell? ⟨F, 1, none⟩ = some (.int .i64 hi) := kF2.out.cell 1
    have k2 : w2.cell? ⟨F, 2, none⟩ = some (.int .i64 lo) := kF2.out.cell 2
    have k3 : w2.cell? ⟨F, 3, none⟩ = some (.int .i64 sz) := kF2.out.cell 3
    have k4 : w2.cell? ⟨F, 4, none⟩ = some (.string D) := kF2.out.cell 4
    clear kF2
    go_wp2_with (go_at_call 81; refine (HS.out _ h2.out f2.out).mono ?_; rintro e w4 ⟨rfl, hp⟩)
    go_end0
    exact hp
  | true =>
    have hh : (hi == 1) = false := by rw [ht] at hb; simpa using hb
    have h1 := Rg.hid (h.alloc (.cells #[.int .i64 ty, .int .i64 hi, .int .i64 lo, .int .i64 sz, .string D] 80))
    have f1 : Hid (Fr base eb W (W.alloc (.cells #[.int .i64 ty, .int .i64 hi, .int .i64 lo, .int .i64 sz, .string D] 80))) := Fr.alloc h.lt _
    have kF : Hid (Rg.Bk W.heap.size [.int .i64 ty, .int .i64 hi, .int .i64 lo, .int .i64 sz, .string D] 80 (W.alloc (.cells #[.int .i64 ty, .int .i64 hi, .int .i64 lo, .int .i64 sz, .string D] 80))) := Rg.Bk.new rfl
    clear h
    go_enter Tryz.func58, Tryz.ntmps58
    go_upto_region 1 with fail
    generalize World.alloc _ _ = w1 at *
    obtain ⟨F, hF⟩ : ∃ F, F = W.heap.size := ⟨_, rfl⟩
    rw [← hF] at kF ⊢
    replace hF := Rg.hid hF
    have k0 : w1.cell? ⟨F, 0, none⟩ = some (.int .i64 ty) := kF.out.cell 0
    have k1 : w1.cell? ⟨F, 1, none⟩ = some (.int .i64 hi) := kF.out.cell 1
    have k2 : w1.cell? ⟨F, 2, none⟩ = some (.int .i64 lo) := kF.out.cell 2
    have k3 : w1.cell? ⟨F, 3, none⟩ = some (.int .i64 sz) := kF.out.cell 3
    have k4 : w1.cell? ⟨F, 4, none⟩ = some (.string D) := kF.out.cell 4
    go_upto_region 3 with (go_at_call 78; refine (HO.out _).mono ?_; rintro e w2 ⟨rfl, b2⟩)
    have h2 := Rg.hid (h1.out.below b2)
    have f2 := Rg.hid (f1.out.trans (Fr.of (eb := eb) b2 h1.out.lt))
    have kF2 := Rg.hid (kF.out.below b2 kF.out.lt)
    clear k0 k1 k2 k3 k4 h1 f1 kF HO b2
    have k0 : w2.cell? ⟨F, 0, none⟩ = some (.int .i64 ty) := kF2.out.cell 0
    have k1 : w2.cell? ⟨F, 1, none⟩ = some (.int .i64 hi) := kF2.out.cell 1
    have k2 : w2.cell? ⟨F, 2, none⟩ = some (.int .i64 lo) := kF2.out.cell 2
    have k3 : w2.cell? ⟨F, 3, none⟩ = some (.int .i64 sz) := kF2.out.cell 3
    have k4 : w2.cell? ⟨F, 4, none⟩ = some (.string D) := kF2.out.cell 4
    clear kF2
    go_wp2_with (go_at_call 81; refine (HS.out _ h2.out f2.out).mono ?_; rintro e w4 ⟨rfl, hp⟩)
    go_end0
    exact hp
/-- what comes of a packet, Wait being marked -/
def Gp.took1 (d : Gp.Dr) (f : Gf.Fr) : Gp.Dr × List UInt8 × List UInt8 :=
  if f.ty = 0 ∧ 5 ≤ f.hi then ((Gp.begins d (7 - f.hi) f.lo).1, (Gp.begins d (7 - f.hi) f.lo).2, [])
  else if f.ty = 0 ∧ f.hi = 1 then ((Gp.closes d).1, (Gp.closes d).2, [])
  else Gp.takes2 d f
theorem takes_took1 (d : Gp.Dr) (f : Gf.Fr) : Gp.takes d f = Gp.took1 { d with wait := Gp.or2 d.wait } f := rfl
theorem phase_rng {d : Gp.Dr} (hr : Gp.right d) : 1 ≤ d.phase ∧ d.phase ≤ 5 := by
  rcases hr.2 with ⟨h, _⟩ | ⟨h, _⟩ | h | h | h
  all_goals omega
theorem take_any {Kp : Nat → Prop} {base eb : Nat} {W : World} {d : Gp.Dr} {p : Pl} {q : Bu} {S C : List UInt8} (h : EAt Kp base W eb d p q S C) (hr : Gp.right d) (ty hi lo sz : Int) (D : ByteArray) (hk : Gf.ok ⟨ty, hi, lo, sz, D.data.toList⟩) (hlen : S.length + 40000 ≤ 140737488355328) (hlc : C.length + D.size ≤ 140737488355328) :
    Calls Tryz.prog 58 #[.pointer (some ⟨eb, 0, none⟩), .agg #[.int .i64 ty, .int .i64 hi, .int .i64 lo, .int .i64 sz, .string D]] W fun e w' => EPost Kp base eb W (Gp.took1 d ⟨ty, hi, lo, sz, D.data.toList⟩).1 (S ++ (Gp.took1 d ⟨ty, hi, lo, sz, D.data.toList⟩).2.1) (C ++ (Gp.took1 d ⟨ty, hi, lo, sz, D.data.toList⟩).2.2) e w' := by
  obtain ⟨⟨h0, h7, l0, l7⟩, _⟩ := hk
  dsimp only at h0 h7 l0 l7
  have HO := fun W1 => openingStep_any ty hi lo sz D W1
  unfold Gp.took1
  by_cases ho : ty = 0 ∧ 5 ≤ hi
  · rw [if_pos ho]
    have hst : Gp.stepOf ty hi = .tuple #[.int .i64 (7 - hi), .bool true] := by
      unfold Gp.stepOf
      by_cases a7 : hi = 7
      · rw [if_pos ⟨ho.1, a7⟩, a7]; rfl
      rw [if_neg (fun x => a7 x.2)]
      by_cases a6 : hi = 6
      · rw [if_pos ⟨ho.1, a6⟩, a6]; rfl
      rw [if_neg (fun x => a6 x.2)]
      have a5 : hi = 5 := by omega
      rw [if_pos ⟨ho.1, a5⟩, a5]; rfl
    rw [hst] at HO
    dsimp only
    rw [List.append_nil]
    exact take_opening h ty hi lo sz D _ (7 - hi) HO fun W1 h1 f1 => EPost.go f1 (takeOpening_any h1 hr (7 - hi) lo (by omega) (by omega) l0 l7 (by omega))
  rw [if_neg ho]
  have hst : Gp.stepOf ty hi = .tuple #[.int .i64 0, .bool false] := by
    unfold Gp.stepOf
    rw [if_neg (fun x => ho ⟨x.1, by omega⟩), if_neg (fun x => ho ⟨x.1, by omega⟩), if_neg (fun x => ho ⟨x.1, by omega⟩)]
  rw [hst] at HO
  by_cases hc : ty = 0 ∧ hi = 1
  · rw [if_pos hc]
    dsimp only
    rw [List.append_nil]
    have hp := phase_rng hr
    exact take_close h ty hi lo sz D _ hc.1 hc.2 HO fun W1 h1 f1 => EPost.go f1 (takeClose_any h1 hp.1 hp.2 (by omega))
  · rw [if_neg hc]
    refine take_other h ty hi lo sz D _ ?_ HO fun W1 h1 f1 => EPost.go f1 (takeOther_any h1 hr ty hi lo sz D hlen hlc)
    rw [Bool.and_eq_false_iff]
    by_cases ht : ty = 0
    · right; simp; exact fun e => hc ⟨ht, e⟩
    · left; simp [ht]
end Go.Proofs.YtfiffbohhhehkaaGreat
