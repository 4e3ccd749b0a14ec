/-
  Walks of layer 16: takeData.
-/
import Derived.Test.YtlclfkogbfigbaaCuBB
namespace Go.Proofs.Ytlclfkogbfigbaa
open Go.RowKit
theorem inum (k : Nat) : ∃ n : Nat, Hid (n = k + 1) ∧ 0 < n ∧ (0 : Int) < (n : Int) ∧ decide (0 < n) = true ∧ decide ((0 : Int) < (n : Int)) = true := ⟨k + 1, rfl, by omega, by omega, decide_eq_true (by omega), decide_eq_true (by omega)⟩
theorem DI.clen {Kp : Nat → Prop} {eb : Nat} {S : List UInt8} {C : List Gp.Pc} {R : Gp.Dr × List Gp.Pc} {W wr : World} {d1 : Gp.Dr} {p1 : Pl} {q1 : Qv} {m : Nat} {l1 : List Gp.Pc} (h : DI Kp eb S C R W wr d1 p1 q1 m l1) (hC : C.length ≤ 900000) : (C ++ l1).length ≤ 1000000 := by
  have := h.len
  rw [List.length_append]
  omega
theorem DI.start {Kp : Nat → Prop} {eb : Nat} {S : List UInt8} {C : List Gp.Pc} {R : Gp.Dr × List Gp.Pc} {W wr : World} {d : Gp.Dr} {p : Pl} {q : Qv} {x : Gp.Pc} {cv : Value} (h4 : IAt Kp wr eb { d with wants := (d.wants + 1) % 32 } p { q with cv := cv } S (C ++ [x])) (ho : IOw d p q) (hR : Ip.drain d.ahead.length { d with wants := (d.wants + 1) % 32 } [x] = R) (hb : Below eb W wr) (_hw : 0 ≤ d.wants ∧ d.wants ≤ 31) (hn15 : d.ahead.length ≤ 15) : ∃ d1 p1 q1 m l1, DI Kp eb S C R W wr d1 p1 q1 m l1 :=
  ⟨_, p, _, d.ahead.length, [x], h4, ho, Nat.le_refl _, hR, hb, by show 0 ≤ (d.wants + 1) % 32 ∧ (d.wants + 1) % 32 ≤ 31; omega, by show 1 + d.ahead.length ≤ 16; omega⟩
/-- one more came -/
theorem DI.next {Kp : Nat → Prop} {eb : Nat} {S : List UInt8} {C : List Gp.Pc} {R : Gp.Dr × List Gp.Pc} {W wr w6 w7 : World} {d1 : Gp.Dr} {p1 : Pl} {q1 : Qv} {m : Nat} {l1 : List Gp.Pc} (h : DI Kp eb S C R W wr d1 p1 q1 m l1) {g : Gp.Fi} {r : List Gp.Fi} (ha : d1.ahead = g :: r) (hg : g.nm = d1.wants) {cv : Value} (f6 : Below eb wr w6) {gb : Nat} {a' : Option Addr} {c' n' : Nat} (hn : r.length = n') (hf : Below eb w6 w7)
    (h7 : IAt Kp w7 eb { d1 with wants := (d1.wants + 1) % 32, ahead := r } { p1 with a := a', ac := c' } { q1 with cv := cv, ag := some gb } S (C ++ l1 ++ [⟨g.ch, g.data⟩])) : (∃ d2 p2 q2 m2 l2, DI Kp eb S C R W w7 d2 p2 q2 m2 l2) ∧ iaheadLen eb w7 = n' := by
  have hfu := h.fuel
  have hl := h.len
  have hm := h.math
  have hwn := h.wn
  rw [ha, List.length_cons] at hfu hl
  obtain ⟨m', rfl⟩ : ∃ m', m = m' + 1 := ⟨m - 1, by omega⟩
  rw [Ip.drain_go ha hg] at hm
  refine ⟨⟨_, _, _, m', l1 ++ [⟨g.ch, g.data⟩], by rw [← List.append_assoc]; exact h7, fun e => (by cases e), by show r.length ≤ m'; omega, hm, (h.bel.trans f6).trans hf, by show 0 ≤ (d1.wants + 1) % 32 ∧ (d1.wants + 1) % 32 ≤ 31; omega, by rw [List.length_append, List.length_singleton]; show l1.length + 1 + r.length ≤ 16; omega⟩, ?_⟩
  rw [h7.aheadLen]
  exact hn
set_option maxHeartbeats 4000000 in
set_option maxRecDepth 100000 in
theorem itakeData_old {Kp : Nat → Prop} {W : World} {eb : Nat} {d : Gp.Dr} {p : Pl} {q : Qv} {S : List UInt8} {C : List Gp.Pc} (h : IAt Kp W eb d p q S C) (kd nm ak ch : Int) (ca : Bool) (D : ByteArray) (K0 : Int) (hK : Ip.early d.wants nm = K0) (Post : Ending → World → Prop) (hD : (D.toList == []) = false) (d1 : (K0 == 0) = false) (d2 : decide (K0 ≤ 15) = false)
    (HS : Hid (∀ W1, IAt Kp W1 eb d p q S C → Below eb W W1 → Calls Try.prog 79 #[.pointer (some ⟨eb, 0, none⟩)] W1 fun e w' => e = .returned (.tuple #[]) ∧ Post (.returned (.tuple #[])) w')) :
    Calls Try.prog 65 #[.pointer (some ⟨eb, 0, none⟩), .agg #[.int .i64 kd, .int .i64 nm, .int .i64 ak, .int .i64 ch, .bool ca, .string D]] W Post := by
  have b0 := Rg.hid (Rg.al1 W (.cells #[.int .i64 kd, .int .i64 nm, .int .i64 ak, .int .i64 ch, .bool ca, .string D] 63))
  have kF0 : Hid (Rg.Bk W.heap.size [.int .i64 kd, .int .i64 nm, .int .i64 ak, .int .i64 ch, .bool ca, .string D] 63 (W.alloc (.cells #[.int .i64 kd, .int .i64 nm, .int .i64 ak, .int .i64 ch, .bool ca, .string D] 63))) := Rg.Bk.new rfl
  obtain ⟨wn, hwn⟩ : ∃ wn, wn = d.wants := ⟨_, rfl⟩
  have hE0 := Rg.hid (h.below b0.out)
  have c10 : (W.alloc (.cells #[.int .i64 kd, .int .i64 nm, .int .i64 ak, .int .i64 ch, .bool ca, .string D] 63)).cell? ⟨eb, 10, none⟩ = some (.int .i64 wn) := by rw [hwn]; exact hE0.out.bk.cell 10
  have hEr := iearly_any d.wants kd nm ak ch ca D
  rw [hK, ← hwn] at hEr
  replace hwn := Rg.hid hwn
  go_enter Try.func65, Try.ntmps65
  go_upto_region 1 with fail
  generalize World.alloc _ _ = w1 at *
  obtain ⟨F, hF⟩ : ∃ F, F = W.heap.size := ⟨_, rfl⟩
  rw [← hF] at kF0 ⊢
  replace hF := Rg.hid hF
  have f0 : w1.cell? ⟨F, 0, none⟩ = some (.int .i64 kd) := kF0.out.cell 0
  have f1 : w1.cell? ⟨F, 1, none⟩ = some (.int .i64 nm) := kF0.out.cell 1
  have f2 : w1.cell? ⟨F, 2, none⟩ = some (.int .i64 ak) := kF0.out.cell 2
  have f3 : w1.cell? ⟨F, 3, none⟩ = some (.int .i64 ch) := kF0.out.cell 3
  have f4 : w1.cell? ⟨F, 4, none⟩ = some (.bool ca) := kF0.out.cell 4
  have f5 : w1.cell? ⟨F, 5, none⟩ = some (.string D) := kF0.out.cell 5
  have HE1 : Hid (Calls Try.prog 74 #[.int .i64 wn, .agg #[.int .i64 kd, .int .i64 nm, .int .i64 ak, .int .i64 ch, .bool ca, .string D]] w1.drew fun e w' => e = .returned (.int .i64 K0) ∧ Hid (Below w1.heap.size w1 w') ∧ Hid (w'.cell? ⟨eb, 10, none⟩ = some (.int .i64 wn) ∧ w'.cell? ⟨F, 0, none⟩ = some (.int .i64 kd) ∧ w'.cell? ⟨F, 1, none⟩ = some (.int .i64 nm) ∧ w'.cell? ⟨F, 2, none⟩ = some (.int .i64 ak) ∧ w'.cell? ⟨F, 3, none⟩ = some (.int .i64 ch) ∧ w'.cell? ⟨F, 4, none⟩ = some (.bool ca) ∧ w'.cell? ⟨F, 5, none⟩ = some (.string D))) := (hEr w1.drew).mono fun e w' ⟨x1, x2'⟩ => by
    have x2 : Below w1.heap.size w1 w' := ((Below.refl w1.heap.size w1).drew).trans x2'
    have hk := (Rg.bcell (W := w1) (w1 := w') x2).1
    have l1 : eb < w1.heap.size := hE0.out.bk.lt
    exact ⟨x1, x2, (hk _ _ l1).trans c10, (hk _ _ kF0.out.lt).trans f0, (hk _ _ kF0.out.lt).trans f1, (hk _ _ kF0.out.lt).trans f2, (hk _ _ kF0.out.lt).trans f3, (hk _ _ kF0.out.lt).trans f4, (hk _ _ kF0.out.lt).trans f5⟩
  clear hEr
  refine wp_region_held_drew (S := (fun (w' : World) => w'.cell? ⟨eb, 10, none⟩ = some (.int .i64 wn) ∧ w'.cell? ⟨F, 0, none⟩ = some (.int .i64 kd) ∧ w'.cell? ⟨F, 1, none⟩ = some (.int .i64 nm) ∧ w'.cell? ⟨F, 2, none⟩ = some (.int .i64 ak) ∧ w'.cell? ⟨F, 3, none⟩ = some (.int .i64 ch) ∧ w'.cell? ⟨F, 4, none⟩ = some (.bool ca) ∧ w'.cell? ⟨F, 5, none⟩ = some (.string D))) (by kernel_rfl) ?_ (fun hH0 => ?_)
  · exact ⟨c10, f0, f1, f2, f3, f4, f5⟩
  refine wpAnyH_take (i := 0) (oi := { dst := some 5, op := _, type := _, pos := _, after := _, guard := _ }) (v := ?_) rfl (by kernel_rfl) (by kernel_rfl) (by kernel_rfl) (fun _ _ _ h => h) (Or.inl ⟨by rfl, ?_⟩) (by assumption) ?_
  rotate_left
  · (intro w hSw; (try dsimp only at hSw); go_simp); (try with_reducible rfl)
  simp only [Act.put, List.setIfInBounds_toArray, List.set_cons_zero, List.set_cons_succ]
  refine wpAnyH_take (i := 1) (oi := { dst := some 6, op := _, type := _, pos := _, after := _, guard := _ }) (v := ?_) rfl (by kernel_rfl) (by kernel_rfl) (by kernel_rfl) (fun _ _ _ h => h) (Or.inl ⟨by rfl, ?_⟩) (by assumption) ?_
  rotate_left
  · (intro w hSw; (try dsimp only at hSw); go_simp); (try with_reducible rfl)
  simp only [Act.put, List.setIfInBounds_toArray, List.set_cons_zero, List.set_cons_succ]
  refine wpAnyH_take (i := 2) (oi := { dst := some 7, op := _, type := _, pos := _, after := _, guard := _ }) (v := ?_) rfl (by kernel_rfl) (by kernel_rfl) (by kernel_rfl) (fun _ _ _ h => h) (Or.inl ⟨by rfl, ?_⟩) (by assumption) ?_
  rotate_left
  · (intro w hSw; (try dsimp only at hSw); go_simp); (try with_reducible rfl)
  simp only [Act.put, List.setIfInBounds_toArray, List.set_cons_zero, List.set_cons_succ]
  refine wpAnyH_take (i := 3) (oi := { dst := some 8, op := _, type := _, pos := _, after := _, guard := _ }) (v := ?_) rfl (by kernel_rfl) (by kernel_rfl) (by kernel_rfl) (fun _ _ _ h => h) (Or.inl ⟨by rfl, ?_⟩) (by assumption) ?_
  rotate_left
  · (intro w hSw; (try dsimp only at hSw); go_simp); (try with_reducible rfl)
  simp only [Act.put, List.setIfInBounds_toArray, List.set_cons_zero, List.set_cons_succ]
  refine wpAnyH_take (i := 4) (oi := { dst := some 9, op := _, type := _, pos := _, after := _, guard := _ }) (v := ?_) rfl (by kernel_rfl) (by kernel_rfl) (by kernel_rfl) (fun _ _ _ h => h) (Or.inl ⟨by rfl, ?_⟩) (by assumption) ?_
  rotate_left
  · (intro w hSw; (try dsimp only at hSw); go_simp); (try with_reducible rfl)
  simp only [Act.put, List.setIfInBounds_toArray, List.set_cons_zero, List.set_cons_succ]
  refine wpAnyH_take (i := 5) (oi := { dst := some 10, op := _, type := _, pos := _, after := _, guard := _ }) (v := ?_) rfl (by kernel_rfl) (by kernel_rfl) (by kernel_rfl) (fun _ _ _ h => h) (Or.inl ⟨by rfl, ?_⟩) (by assumption) ?_
  rotate_left
  · (intro w hSw; (try dsimp only at hSw); go_simp); (try with_reducible rfl)
  simp only [Act.put, List.setIfInBounds_toArray, List.set_cons_zero, List.set_cons_succ]
  refine wpAnyH_ready (rs := [6]) (by kernel_rfl) (by simp) ?_
  refine AllReadyH.cons (o := { dst := some 11, op := _, type := _, pos := _, after := _, guard := _ }) rfl (fun K hK => ?_) AllReadyH.nil
  go_simp
  go_at_call 74; refine HE1.out.mono ?_; rintro e w3 ⟨rfl, b3, hS3⟩
  refine hK.out _ _ ?_ (fun hR6 => ?_)
  · exact hS3.out
  clear hK K hH0
  try simp only [Act.put, List.setIfInBounds_toArray, List.set_cons_zero, List.set_cons_succ]
  refine wpAnyH_take (i := 7) (oi := { dst := some 4, op := _, type := _, pos := _, after := _, guard := _ }) (v := ?_) rfl (by kernel_rfl) (by kernel_rfl) (by kernel_rfl) (fun _ _ _ h => h) (Or.inl ⟨by rfl, ?_⟩) (by assumption) ?_
  rotate_left
  · (intro w hSw; (try dsimp only at hSw); go_simp); (try with_reducible rfl)
  simp only [Act.put, List.setIfInBounds_toArray, List.set_cons_zero, List.set_cons_succ]
  refine wpAnyH_done (by kernel_rfl) ?_ _
  have hE3 := Rg.hid (hE0.out.below b3.out)
  have hB3 := Rg.hid (Rg.chain b0.out b3.out)
  have hB3e : Hid (Below eb W w3) := hB3.out.mono (Nat.le_of_lt h.bk.lt)
  obtain ⟨_, m0, m1, m2, m3, m4, m5⟩ := hS3.out
  clear hS3 c10 f0 f1 f2 f3 f4 f5 HE1 b0 b3 kF0 hE0 hB3 hF hwn
  have HS1 := Rg.hid (HS.out w3 hE3.out hB3e.out)
  clear HS h hE3 hB3e
  go_wp2_with (go_at_call 79; refine HS1.out.mono ?_; rintro e w4 ⟨rfl, hp⟩)
  go_end0
  exact hp
set_option maxHeartbeats 4000000 in
set_option maxRecDepth 100000 in
theorem itakeData_keep0 {Kp : Nat → Prop} {W : World} {eb : Nat} {d : Gp.Dr} {p : Pl} {q : Qv} {S : List UInt8} {C : List Gp.Pc} (h : IAt Kp W eb d p q S C) (kd nm ak ch : Int) (ca : Bool) (D : ByteArray) (K0 : Int) (hK : Ip.early d.wants nm = K0) (Post : Ending → World → Prop) (hD : (D.toList == []) = false) (d1 : (K0 == 0) = false) (d2 : decide (K0 ≤ 15) = true) (Q : World → Prop)
    (HKp : Hid (∀ W1, IAt Kp W1 eb d p q S C → Below eb W W1 → Calls Try.prog 80 #[.pointer (some ⟨eb, 0, none⟩), .agg #[.int .i64 kd, .int .i64 nm, .int .i64 ak, .int .i64 ch, .bool ca, .string D]] W1 fun e w' => e = .returned (.tuple #[]) ∧ Hid (Q w')))
    (HR : Hid (∀ W1, Q W1 → Calls Try.prog 61 #[.pointer (some ⟨eb, 0, none⟩)] W1 fun e w' => e = .returned (.bool false) ∧ Post (.returned (.tuple #[])) w')) :
    Calls Try.prog 65 #[.pointer (some ⟨eb, 0, none⟩), .agg #[.int .i64 kd, .int .i64 nm, .int .i64 ak, .int .i64 ch, .bool ca, .string D]] W Post := by
  have b0 := Rg.hid (Rg.al1 W (.cells #[.int .i64 kd, .int .i64 nm, .int .i64 ak, .int .i64 ch, .bool ca, .string D] 63))
  have kF0 : Hid (Rg.Bk W.heap.size [.int .i64 kd, .int .i64 nm, .int .i64 ak, .int .i64 ch, .bool ca, .string D] 63 (W.alloc (.cells #[.int .i64 kd, .int .i64 nm, .int .i64 ak, .int .i64 ch, .bool ca, .string D] 63))) := Rg.Bk.new rfl
  obtain ⟨wn, hwn⟩ : ∃ wn, wn = d.wants := ⟨_, rfl⟩
  have hE0 := Rg.hid (h.below b0.out)
  have c10 : (W.alloc (.cells #[.int .i64 kd, .int .i64 nm, .int .i64 ak, .int .i64 ch, .bool ca, .string D] 63)).cell? ⟨eb, 10, none⟩ = some (.int .i64 wn) := by rw [hwn]; exact hE0.out.bk.cell 10
  have hEr := iearly_any d.wants kd nm ak ch ca D
  rw [hK, ← hwn] at hEr
  replace hwn := Rg.hid hwn
  go_enter Try.func65, Try.ntmps65
  go_upto_region 1 with fail
  generalize World.alloc _ _ = w1 at *
  obtain ⟨F, hF⟩ : ∃ F, F = W.heap.size := ⟨_, rfl⟩
  rw [← hF] at kF0 ⊢
  replace hF := Rg.hid hF
  have f0 : w1.cell? ⟨F, 0, none⟩ = some (.int .i64 kd) := kF0.out.cell 0
  have f1 : w1.cell? ⟨F, 1, none⟩ = some (.int .i64 nm) := kF0.out.cell 1
  have f2 : w1.cell? ⟨F, 2, none⟩ = some (.int .i64 ak) := kF0.out.cell 2
  have f3 : w1.cell? ⟨F, 3, none⟩ = some (.int .i64 ch) := kF0.out.cell 3
  have f4 : w1.cell? ⟨F, 4, none⟩ = some (.bool ca) := kF0.out.cell 4
  have f5 : w1.cell? ⟨F, 5, none⟩ = some (.string D) := kF0.out.cell 5
  have HE1 : Hid (Calls Try.prog 74 #[.int .i64 wn, .agg #[.int .i64 kd, .int .i64 nm, .int .i64 ak, .int .i64 ch, .bool ca, .string D]] w1.drew fun e w' => e = .returned (.int .i64 K0) ∧ Hid (Below w1.heap.size w1 w') ∧ Hid (w'.cell? ⟨eb, 10, none⟩ = some (.int .i64 wn) ∧ w'.cell? ⟨F, 0, none⟩ = some (.int .i64 kd) ∧ w'.cell? ⟨F, 1, none⟩ = some (.int .i64 nm) ∧ w'.cell? ⟨F, 2, none⟩ = some (.int .i64 ak) ∧ w'.cell? ⟨F, 3, none⟩ = some (.int .i64 ch) ∧ w'.cell? ⟨F, 4, none⟩ = some (.bool ca) ∧ w'.cell? ⟨F, 5, none⟩ = some (.string D))) := (hEr w1.drew).mono fun e w' ⟨x1, x2'⟩ => by
    have x2 : Below w1.heap.size w1 w' := ((Below.refl w1.heap.size w1).drew).trans x2'
    have hk := (Rg.bcell (W := w1) (w1 := w') x2).1
    have l1 : eb < w1.heap.size := hE0.out.bk.lt
    exact ⟨x1, x2, (hk _ _ l1).trans c10, (hk _ _ kF0.out.lt).trans f0, (hk _ _ kF0.out.lt).trans f1, (hk _ _ kF0.out.lt).trans f2, (hk _ _ kF0.out.lt).trans f3, (hk _ _ kF0.out.lt).trans f4, (hk _ _ kF0.out.lt).trans f5⟩
  clear hEr
  refine wp_region_held_drew (S := (fun (w' : World) => w'.cell? ⟨eb, 10, none⟩ = some (.int .i64 wn) ∧ w'.cell? ⟨F, 0, none⟩ = some (.int .i64 kd) ∧ w'.cell? ⟨F, 1, none⟩ = some (.int .i64 nm) ∧ w'.cell? ⟨F, 2, none⟩ = some (.int .i64 ak) ∧ w'.cell? ⟨F, 3, none⟩ = some (.int .i64 ch) ∧ w'.cell? ⟨F, 4, none⟩ = some (.bool ca) ∧ w'.cell? ⟨F, 5, none⟩ = some (.string D))) (by kernel_rfl) ?_ (fun hH0 => ?_)
  · exact ⟨c10, f0, f1, f2, f3, f4, f5⟩
  refine wpAnyH_take (i := 0) (oi := { dst := some 5, op := _, type := _, pos := _, after := _, guard := _ }) (v := ?_) rfl (by kernel_rfl) (by kernel_rfl) (by kernel_rfl) (fun _ _ _ h => h) (Or.inl ⟨by rfl, ?_⟩) (by assumption) ?_
  rotate_left
  · (intro w hSw; (try dsimp only at hSw); go_simp); (try with_reducible rfl)
  simp only [Act.put, List.setIfInBounds_toArray, List.set_cons_zero, List.set_cons_succ]
  refine wpAnyH_take (i := 1) (oi := { dst := some 6, op := _, type := _, pos := _, after := _, guard := _ }) (v := ?_) rfl (by kernel_rfl) (by kernel_rfl) (by kernel_rfl) (fun _ _ _ h => h) (Or.inl ⟨by rfl, ?_⟩) (by assumption) ?_
  rotate_left
  · (intro w hSw; (try dsimp only at hSw); go_simp); (try with_reducible rfl)
  simp only [Act.put, List.setIfInBounds_toArray, List.set_cons_zero, List.set_cons_succ]
  refine wpAnyH_take (i := 2) (oi := { dst := some 7, op := _, type := _, pos := _, after := _, guard := _ }) (v := ?_) rfl (by kernel_rfl) (by kernel_rfl) (by kernel_rfl) (fun _ _ _ h => h) (Or.inl ⟨by rfl, ?_⟩) (by assumption) ?_
  rotate_left
  · (intro w hSw; (try dsimp only at hSw); go_simp); (try with_reducible rfl)
  simp only [Act.put, List.setIfInBounds_toArray, List.set_cons_zero, List.set_cons_succ]
  refine wpAnyH_take (i := 3) (oi := { dst := some 8, op := _, type := _, pos := _, after := _, guard := _ }) (v := ?_) rfl (by kernel_rfl) (by kernel_rfl) (by kernel_rfl) (fun _ _ _ h => h) (Or.inl ⟨by rfl, ?_⟩) (by assumption) ?_
  rotate_left
  · (intro w hSw; (try dsimp only at hSw); go_simp); (try with_reducible rfl)
  simp only [Act.put, List.setIfInBounds_toArray, List.set_cons_zero, List.set_cons_succ]
  refine wpAnyH_take (i := 4) (oi := { dst := some 9, op := _, type := _, pos := _, after := _, guard := _ }) (v := ?_) rfl (by kernel_rfl) (by kernel_rfl) (by kernel_rfl) (fun _ _ _ h => h) (Or.inl ⟨by rfl, ?_⟩) (by assumption) ?_
  rotate_left
  · (intro w hSw; (try dsimp only at hSw); go_simp); (try with_reducible rfl)
  simp only [Act.put, List.setIfInBounds_toArray, List.set_cons_zero, List.set_cons_succ]
  refine wpAnyH_take (i := 5) (oi := { dst := some 10, op := _, type := _, pos := _, after := _, guard := _ }) (v := ?_) rfl (by kernel_rfl) (by kernel_rfl) (by kernel_rfl) (fun _ _ _ h => h) (Or.inl ⟨by rfl, ?_⟩) (by assumption) ?_
  rotate_left
  · (intro w hSw; (try dsimp only at hSw); go_simp); (try with_reducible rfl)
  simp only [Act.put, List.setIfInBounds_toArray, List.set_cons_zero, List.set_cons_succ]
  refine wpAnyH_ready (rs := [6]) (by kernel_rfl) (by simp) ?_
  refine AllReadyH.cons (o := { dst := some 11, op := _, type := _, pos := _, after := _, guard := _ }) rfl (fun K hK => ?_) AllReadyH.nil
  go_simp
  go_at_call 74; refine HE1.out.mono ?_; rintro e w3 ⟨rfl, b3, hS3⟩
  refine hK.out _ _ ?_ (fun hR6 => ?_)
  · exact hS3.out
  clear hK K hH0
  try simp only [Act.put, List.setIfInBounds_toArray, List.set_cons_zero, List.set_cons_succ]
  refine wpAnyH_take (i := 7) (oi := { dst := some 4, op := _, type := _, pos := _, after := _, guard := _ }) (v := ?_) rfl (by kernel_rfl) (by kernel_rfl) (by kernel_rfl) (fun _ _ _ h => h) (Or.inl ⟨by rfl, ?_⟩) (by assumption) ?_
  rotate_left
  · (intro w hSw; (try dsimp only at hSw); go_simp); (try with_reducible rfl)
  simp only [Act.put, List.setIfInBounds_toArray, List.set_cons_zero, List.set_cons_succ]
  refine wpAnyH_done (by kernel_rfl) ?_ _
  have hE3 := Rg.hid (hE0.out.below b3.out)
  have hB3 := Rg.hid (Rg.chain b0.out b3.out)
  have hB3e : Hid (Below eb W w3) := hB3.out.mono (Nat.le_of_lt h.bk.lt)
  obtain ⟨_, m0, m1, m2, m3, m4, m5⟩ := hS3.out
  clear hS3 c10 f0 f1 f2 f3 f4 f5 HE1 b0 b3 kF0 hE0 hB3 hF hwn
  have HK1 := Rg.hid (HKp.out w3 hE3.out hB3e.out)
  clear HKp h hE3 hB3e
  go_wp2_with (first | (go_at_call 80; refine HK1.out.mono ?_; rintro e w4 ⟨rfl, hq⟩) | (go_at_call 61; refine (HR.out _ hq.out).mono ?_; rintro e w5 ⟨rfl, hp⟩))
  go_end0
  exact hp
set_option maxHeartbeats 4000000 in
set_option maxRecDepth 100000 in
theorem itakeData_keep1 {Kp : Nat → Prop} {W : World} {eb : Nat} {d : Gp.Dr} {p : Pl} {q : Qv} {S : List UInt8} {C : List Gp.Pc} (h : IAt Kp W eb d p q S C) (kd nm ak ch : Int) (ca : Bool) (D : ByteArray) (K0 : Int) (hK : Ip.early d.wants nm = K0) (Post : Ending → World → Prop) (hD : (D.toList == []) = false) (d1 : (K0 == 0) = false) (d2 : decide (K0 ≤ 15) = true) (Q Q2 : World → Prop)
    (HKp : Hid (∀ W1, IAt Kp W1 eb d p q S C → Below eb W W1 → Calls Try.prog 80 #[.pointer (some ⟨eb, 0, none⟩), .agg #[.int .i64 kd, .int .i64 nm, .int .i64 ak, .int .i64 ch, .bool ca, .string D]] W1 fun e w' => e = .returned (.tuple #[]) ∧ Hid (Q w')))
    (HR : Hid (∀ W1, Q W1 → Calls Try.prog 61 #[.pointer (some ⟨eb, 0, none⟩)] W1 fun e w' => e = .returned (.bool true) ∧ Hid (Q2 w')))
    (HS : Hid (∀ W1, Q2 W1 → Calls Try.prog 81 #[.pointer (some ⟨eb, 0, none⟩)] W1 fun e w' => e = .returned (.tuple #[]) ∧ Post (.returned (.tuple #[])) w')) :
    Calls Try.prog 65 #[.pointer (some ⟨eb, 0, none⟩), .agg #[.int .i64 kd, .int .i64 nm, .int .i64 ak, .int .i64 ch, .bool ca, .string D]] W Post := by
  have b0 := Rg.hid (Rg.al1 W (.cells #[.int .i64 kd, .int .i64 nm, .int .i64 ak, .int .i64 ch, .bool ca, .string D] 63))
  have kF0 : Hid (Rg.Bk W.heap.size [.int .i64 kd, .int .i64 nm, .int .i64 ak, .int .i64 ch, .bool ca, .string D] 63 (W.alloc (.cells #[.int .i64 kd, .int .i64 nm, .int .i64 ak, .int .i64 ch, .bool ca, .string D] 63))) := Rg.Bk.new rfl
  obtain ⟨wn, hwn⟩ : ∃ wn, wn = d.wants := ⟨_, rfl⟩
  have hE0 := Rg.hid (h.below b0.out)
  have c10 : (W.alloc (.cells #[.int .i64 kd, .int .i64 nm, .int .i64 ak, .int .i64 ch, .bool ca, .string D] 63)).cell? ⟨eb, 10, none⟩ = some (.int .i64 wn) := by rw [hwn]; exact hE0.out.bk.cell 10
  have hEr := iearly_any d.wants kd nm ak ch ca D
  rw [hK, ← hwn] at hEr
  replace hwn := Rg.hid hwn
  go_enter Try.func65, Try.ntmps65
  go_upto_region 1 with fail
  generalize World.alloc _ _ = w1 at *
  obtain ⟨F, hF⟩ : ∃ F, F = W.heap.size := ⟨_, rfl⟩
  rw [← hF] at kF0 ⊢
  replace hF := Rg.hid hF
  have f0 : w1.cell? ⟨F, 0, none⟩ = some (.int .i64 kd) := kF0.out.cell 0
  have f1 : w1.cell? ⟨F, 1, none⟩ = some (.int .i64 nm) := kF0.out.cell 1
  have f2 : w1.cell? ⟨F, 2, none⟩ = some (.int .i64 ak) := kF0.out.cell 2
  have f3 : w1.cell? ⟨F, 3, none⟩ = some (.int .i64 ch) := kF0.out.cell 3
  have f4 : w1.cell? ⟨F, 4, none⟩ = some (.bool ca) := kF0.out.cell 4
  have f5 : w1.cell? ⟨F, 5, none⟩ = some (.string D) := kF0.out.cell 5
  have HE1 : Hid (Calls Try.prog 74 #[.int .i64 wn, .agg #[.int .i64 kd, .int .i64 nm, .int .i64 ak, .int .i64 ch, .bool ca, .string D]] w1.drew fun e w' => e = .returned (.int .i64 K0) ∧ Hid (Below w1.heap.size w1 w') ∧ Hid (w'.cell? ⟨eb, 10, none⟩ = some (.int .i64 wn) ∧ w'.cell? ⟨F, 0, none⟩ = some (.int .i64 kd) ∧ w'.cell? ⟨F, 1, none⟩ = some (.int .i64 nm) ∧ w'.cell? ⟨F, 2, none⟩ = some (.int .i64 ak) ∧ w'.cell? ⟨F, 3, none⟩ = some (.int .i64 ch) ∧ w'.cell? ⟨F, 4, none⟩ = some (.bool ca) ∧ w'.cell? ⟨F, 5, none⟩ = some (.string D))) := (hEr w1.drew).mono fun e w' ⟨x1, x2'⟩ => by
    have x2 : Below w1.heap.size w1 w' := ((Below.refl w1.heap.size w1).drew).trans x2'
    have hk := (Rg.bcell (W := w1) (w1 := w') x2).1
    have l1 : eb < w1.heap.size := hE0.out.bk.lt
    exact ⟨x1, x2, (hk _ _ l1).trans c10, (hk _ _ kF0.out.lt).trans f0, (hk _ _ kF0.out.lt).trans f1, (hk _ _ kF0.out.lt).trans f2, (hk _ _ kF0.out.lt).trans f3, (hk _ _ kF0.out.lt).trans f4, (hk _ _ kF0.out.lt).trans f5⟩
  clear hEr
  refine wp_region_held_drew (S := (fun (w' : World) => w'.cell? ⟨eb, 10, none⟩ = some (.int .i64 wn) ∧ w'.cell? ⟨F, 0, none⟩ = some (.int .i64 kd) ∧ w'.cell? ⟨F, 1, none⟩ = some (.int .i64 nm) ∧ w'.cell? ⟨F, 2, none⟩ = some (.int .i64 ak) ∧ w'.cell? ⟨F, 3, none⟩ = some (.int .i64 ch) ∧ w'.cell? ⟨F, 4, none⟩ = some (.bool ca) ∧ w'.cell? ⟨F, 5, none⟩ = some (.string D))) (by kernel_rfl) ?_ (fun hH0 => ?_)
  · exact ⟨c10, f0, f1, f2, f3, f4, f5⟩
  refine wpAnyH_take (i := 0) (oi := { dst := some 5, op := _, type := _, pos := _, after := _, guard := _ }) (v := ?_) rfl (by kernel_rfl) (by kernel_rfl) (by kernel_rfl) (fun _ _ _ h => h) (Or.inl ⟨by rfl, ?_⟩) (by assumption) ?_
  rotate_left
  · (intro w hSw; (try dsimp only at hSw); go_simp); (try with_reducible rfl)
  simp only [Act.put, List.setIfInBounds_toArray, List.set_cons_zero, List.set_cons_succ]
  refine wpAnyH_take (i := 1) (oi := { dst := some 6, op := _, type := _, pos := _, after := _, guard := _ }) (v := ?_) rfl (by kernel_rfl) (by kernel_rfl) (by kernel_rfl) (fun _ _ _ h => h) (Or.inl ⟨by rfl, ?_⟩) (by assumption) ?_
  rotate_left
  · (intro w hSw; (try dsimp only at hSw); go_simp); (try with_reducible rfl)
  simp only [Act.put, List.setIfInBounds_toArray, List.set_cons_zero, List.set_cons_succ]
  refine wpAnyH_take (i := 2) (oi := { dst := some 7, op := _, type := _, pos := _, after := _, guard := _ }) (v := ?_) rfl (by kernel_rfl) (by kernel_rfl) (by kernel_rfl) (fun _ _ _ h => h) (Or.inl ⟨by rfl, ?_⟩) (by assumption) ?_
  rotate_left
  · (intro w hSw; (try dsimp only at hSw); go_simp); (try with_reducible rfl)
  simp only [Act.put, List.setIfInBounds_toArray, List.set_cons_zero, List.set_cons_succ]
  refine wpAnyH_take (i := 3) (oi := { dst := some 8, op := _, type := _, pos := _, after := _, guard := _ }) (v := ?_) rfl (by kernel_rfl) (by kernel_rfl) (by kernel_rfl) (fun _ _ _ h => h) (Or.inl ⟨by rfl, ?_⟩) (by assumption) ?_
  rotate_left
  · (intro w hSw; (try dsimp only at hSw); go_simp); (try with_reducible rfl)
  simp only [Act.put, List.setIfInBounds_toArray, List.set_cons_zero, List.set_cons_succ]
  refine wpAnyH_take (i := 4) (oi := { dst := some 9, op := _, type := _, pos := _, after := _, guard := _ }) (v := ?_) rfl (by kernel_rfl) (by kernel_rfl) (by kernel_rfl) (fun _ _ _ h => h) (Or.inl ⟨by rfl, ?_⟩) (by assumption) ?_
  rotate_left
  · (intro w hSw; (try dsimp only at hSw); go_simp); (try with_reducible rfl)
  simp only [Act.put, List.setIfInBounds_toArray, List.set_cons_zero, List.set_cons_succ]
  refine wpAnyH_take (i := 5) (oi := { dst := some 10, op := _, type := _, pos := _, after := _, guard := _ }) (v := ?_) rfl (by kernel_rfl) (by kernel_rfl) (by kernel_rfl) (fun _ _ _ h => h) (Or.inl ⟨by rfl, ?_⟩) (by assumption) ?_
  rotate_left
  · (intro w hSw; (try dsimp only at hSw); go_simp); (try with_reducible rfl)
  simp only [Act.put, List.setIfInBounds_toArray, List.set_cons_zero, List.set_cons_succ]
  refine wpAnyH_ready (rs := [6]) (by kernel_rfl) (by simp) ?_
  refine AllReadyH.cons (o := { dst := some 11, op := _, type := _, pos := _, after := _, guard := _ }) rfl (fun K hK => ?_) AllReadyH.nil
  go_simp
  go_at_call 74; refine HE1.out.mono ?_; rintro e w3 ⟨rfl, b3, hS3⟩
  refine hK.out _ _ ?_ (fun hR6 => ?_)
  · exact hS3.out
  clear hK K hH0
  try simp only [Act.put, List.setIfInBounds_toArray, List.set_cons_zero, List.set_cons_succ]
  refine wpAnyH_take (i := 7) (oi := { dst := some 4, op := _, type := _, pos := _, after := _, guard := _ }) (v := ?_) rfl (by kernel_rfl) (by kernel_rfl) (by kernel_rfl) (fun _ _ _ h => h) (Or.inl ⟨by rfl, ?_⟩) (by assumption) ?_
  rotate_left
  · (intro w hSw; (try dsimp only at hSw); go_simp); (try with_reducible rfl)
  simp only [Act.put, List.setIfInBounds_toArray, List.set_cons_zero, List.set_cons_succ]
  refine wpAnyH_done (by kernel_rfl) ?_ _
  have hE3 := Rg.hid (hE0.out.below b3.out)
  have hB3 := Rg.hid (Rg.chain b0.out b3.out)
  have hB3e : Hid (Below eb W w3) := hB3.out.mono (Nat.le_of_lt h.bk.lt)
  obtain ⟨_, m0, m1, m2, m3, m4, m5⟩ := hS3.out
  clear hS3 c10 f0 f1 f2 f3 f4 f5 HE1 b0 b3 kF0 hE0 hB3 hF hwn
  have HK1 := Rg.hid (HKp.out w3 hE3.out hB3e.out)
  clear HKp h hE3 hB3e
  go_wp2_with (first | (go_at_call 80; refine HK1.out.mono ?_; rintro e w4 ⟨rfl, hq⟩) | (go_at_call 61; refine (HR.out _ hq.out).mono ?_; rintro e w5 ⟨rfl, hq2⟩) | (go_at_call 81; refine (HS.out _ hq2.out).mono ?_; rintro e w6 ⟨rfl, hp⟩))
  go_end0
  exact hp
set_option maxHeartbeats 4000000 in
set_option maxRecDepth 100000 in
theorem itakeData_come {Kp : Nat → Prop} {W : World} {eb : Nat} {d : Gp.Dr} {p : Pl} {q : Qv} {S : List UInt8} {C : List Gp.Pc} (h : IAt Kp W eb d p q S C) (kd nm ak ch : Int) (ca : Bool) (D : ByteArray) (K0 : Int) (hK : Ip.early d.wants nm = K0) (Post : Ending → World → Prop) (hD : (D.toList == []) = false) (d1 : (K0 == 0) = true) (ho : IOw d p q) (hw : 0 ≤ d.wants ∧ d.wants ≤ 31) (hn15 : d.ahead.length ≤ 15) (hC : C.length ≤ 900000) (R : Gp.Dr × List Gp.Pc) (hR : Hid (Ip.drain d.ahead.length { d with wants := (d.wants + 1) % 32 } [⟨ch, D⟩] = R))
    (HS : Hid (∀ W1 d1 p1 q1 l1, (d1, l1) = R → IAt Kp W1 eb d1 p1 q1 S (C ++ l1) → IOw d1 p1 q1 → (0 ≤ d1.wants ∧ d1.wants ≤ 31) → Below eb W W1 → Calls Try.prog 79 #[.pointer (some ⟨eb, 0, none⟩)] W1 fun e w' => e = .returned (.tuple #[]) ∧ Post (.returned (.tuple #[])) w')) :
    Calls Try.prog 65 #[.pointer (some ⟨eb, 0, none⟩), .agg #[.int .i64 kd, .int .i64 nm, .int .i64 ak, .int .i64 ch, .bool ca, .string D]] W Post := by
  have b0 := Rg.hid (Rg.al1 W (.cells #[.int .i64 kd, .int .i64 nm, .int .i64 ak, .int .i64 ch, .bool ca, .string D] 63))
  have kF0 : Hid (Rg.Bk W.heap.size [.int .i64 kd, .int .i64 nm, .int .i64 ak, .int .i64 ch, .bool ca, .string D] 63 (W.alloc (.cells #[.int .i64 kd, .int .i64 nm, .int .i64 ak, .int .i64 ch, .bool ca, .string D] 63))) := Rg.Bk.new rfl
  obtain ⟨wn, hwn⟩ : ∃ wn, wn = d.wants := ⟨_, rfl⟩
  have hE0 := Rg.hid (h.below b0.out)
  have c10 : (W.alloc (.cells #[.int .i64 kd, .int .i64 nm, .int .i64 ak, .int .i64 ch, .bool ca, .string D] 63)).cell? ⟨eb, 10, none⟩ = some (.int .i64 wn) := by rw [hwn]; exact hE0.out.bk.cell 10
  have hEr := iearly_any d.wants kd nm ak ch ca D
  rw [hK, ← hwn] at hEr
  replace hwn := Rg.hid hwn
  go_enter Try.func65, Try.ntmps65
  go_upto_region 1 with fail
  generalize World.alloc _ _ = w1 at *
  obtain ⟨F, hF⟩ : ∃ F, F = W.heap.size := ⟨_, rfl⟩
  rw [← hF] at kF0 ⊢
  replace hF := Rg.hid hF
  have f0 : w1.cell? ⟨F, 0, none⟩ = some (.int .i64 kd) := kF0.out.cell 0
  have f1 : w1.cell? ⟨F, 1, none⟩ = some (.int .i64 nm) := kF0.out.cell 1
  have f2 : w1.cell? ⟨F, 2, none⟩ = some (.int .i64 ak) := kF0.out.cell 2
  have f3 : w1.cell? ⟨F, 3, none⟩ = some (.int .i64 ch) := kF0.out.cell 3
  have f4 : w1.cell? ⟨F, 4, none⟩ = some (.bool ca) := kF0.out.cell 4
  have f5 : w1.cell? ⟨F, 5, none⟩ = some (.string D) := kF0.out.cell 5
  have HE1 : Hid (Calls Try.prog 74 #[.int .i64 wn, .agg #[.int .i64 kd, .int .i64 nm, .int .i64 ak, .int .i64 ch, .bool ca, .string D]] w1.drew fun e w' => e = .returned (.int .i64 K0) ∧ Hid (Below w1.heap.size w1 w') ∧ Hid (w'.cell? ⟨eb, 10, none⟩ = some (.int .i64 wn) ∧ w'.cell? ⟨F, 0, none⟩ = some (.int .i64 kd) ∧ w'.cell? ⟨F, 1, none⟩ = some (.int .i64 nm) ∧ w'.cell? ⟨F, 2, none⟩ = some (.int .i64 ak) ∧ w'.cell? ⟨F, 3, none⟩ = some (.int .i64 ch) ∧ w'.cell? ⟨F, 4, none⟩ = some (.bool ca) ∧ w'.cell? ⟨F, 5, none⟩ = some (.string D))) := (hEr w1.drew).mono fun e w' ⟨x1, x2'⟩ => by
    have x2 : Below w1.heap.size w1 w' := ((Below.refl w1.heap.size w1).drew).trans x2'
    have hk := (Rg.bcell (W := w1) (w1 := w') x2).1
    have l1 : eb < w1.heap.size := hE0.out.bk.lt
    exact ⟨x1, x2, (hk _ _ l1).trans c10, (hk _ _ kF0.out.lt).trans f0, (hk _ _ kF0.out.lt).trans f1, (hk _ _ kF0.out.lt).trans f2, (hk _ _ kF0.out.lt).trans f3, (hk _ _ kF0.out.lt).trans f4, (hk _ _ kF0.out.lt).trans f5⟩
  clear hEr
  refine wp_region_held_drew (S := (fun (w' : World) => w'.cell? ⟨eb, 10, none⟩ = some (.int .i64 wn) ∧ w'.cell? ⟨F, 0, none⟩ = some (.int .i64 kd) ∧ w'.cell? ⟨F, 1, none⟩ = some (.int .i64 nm) ∧ w'.cell? ⟨F, 2, none⟩ = some (.int .i64 ak) ∧ w'.cell? ⟨F, 3, none⟩ = some (.int .i64 ch) ∧ w'.cell? ⟨F, 4, none⟩ = some (.bool ca) ∧ w'.cell? ⟨F, 5, none⟩ = some (.string D))) (by kernel_rfl) ?_ (fun hH0 => ?_)
  · exact ⟨c10, f0, f1, f2, f3, f4, f5⟩
  refine wpAnyH_take (i := 0) (oi := { dst := some 5, op := _, type := _, pos := _, after := _, guard := _ }) (v := ?_) rfl (by kernel_rfl) (by kernel_rfl) (by kernel_rfl) (fun _ _ _ h => h) (Or.inl ⟨by rfl, ?_⟩) (by assumption) ?_
  rotate_left
  · (intro w hSw; (try dsimp only at hSw); go_simp); (try with_reducible rfl)
  simp only [Act.put, List.setIfInBounds_toArray, List.set_cons_zero, List.set_cons_succ]
  refine wpAnyH_take (i := 1) (oi := { dst := some 6, op := _, type := _, pos := _, after := _, guard := _ }) (v := ?_) rfl (by kernel_rfl) (by kernel_rfl) (by kernel_rfl) (fun _ _ _ h => h) (Or.inl ⟨by rfl, ?_⟩) (by assumption) ?_
  rotate_left
  · (intro w hSw; (try dsimp only at hSw); go_simp); (try with_reducible rfl)
  simp only [Act.put, List.setIfInBounds_toArray, List.set_cons_zero, List.set_cons_succ]
  refine wpAnyH_take (i := 2) (oi := { dst := some 7, op := _, type := _, pos := _, after := _, guard := _ }) (v := ?_) rfl (by kernel_rfl) (by kernel_rfl) (by kernel_rfl) (fun _ _ _ h => h) (Or.inl ⟨by rfl, ?_⟩) (by assumption) ?_
  rotate_left
  · (intro w hSw; (try dsimp only at hSw); go_simp); (try with_reducible rfl)
  simp only [Act.put, List.setIfInBounds_toArray, List.set_cons_zero, List.set_cons_succ]
  refine wpAnyH_take (i := 3) (oi := { dst := some 8, op := _, type := _, pos := _, after := _, guard := _ }) (v := ?_) rfl (by kernel_rfl) (by kernel_rfl) (by kernel_rfl) (fun _ _ _ h => h) (Or.inl ⟨by rfl, ?_⟩) (by assumption) ?_
  rotate_left
  · (intro w hSw; (try dsimp only at hSw); go_simp); (try with_reducible rfl)
  simp only [Act.put, List.setIfInBounds_toArray, List.set_cons_zero, List.set_cons_succ]
  refine wpAnyH_take (i := 4) (oi := { dst := some 9, op := _, type := _, pos := _, after := _, guard := _ }) (v := ?_) rfl (by kernel_rfl) (by kernel_rfl) (by kernel_rfl) (fun _ _ _ h => h) (Or.inl ⟨by rfl, ?_⟩) (by assumption) ?_
  rotate_left
  · (intro w hSw; (try dsimp only at hSw); go_simp); (try with_reducible rfl)
  simp only [Act.put, List.setIfInBounds_toArray, List.set_cons_zero, List.set_cons_succ]
  refine wpAnyH_take (i := 5) (oi := { dst := some 10, op := _, type := _, pos := _, after := _, guard := _ }) (v := ?_) rfl (by kernel_rfl) (by kernel_rfl) (by kernel_rfl) (fun _ _ _ h => h) (Or.inl ⟨by rfl, ?_⟩) (by assumption) ?_
  rotate_left
  · (intro w hSw; (try dsimp only at hSw); go_simp); (try with_reducible rfl)
  simp only [Act.put, List.setIfInBounds_toArray, List.set_cons_zero, List.set_cons_succ]
  refine wpAnyH_ready (rs := [6]) (by kernel_rfl) (by simp) ?_
  refine AllReadyH.cons (o := { dst := some 11, op := _, type := _, pos := _, after := _, guard := _ }) rfl (fun K hK => ?_) AllReadyH.nil
  go_simp
  go_at_call 74; refine HE1.out.mono ?_; rintro e w3 ⟨rfl, b3, hS3⟩
  refine hK.out _ _ ?_ (fun hR6 => ?_)
  · exact hS3.out
  clear hK K hH0
  try simp only [Act.put, List.setIfInBounds_toArray, List.set_cons_zero, List.set_cons_succ]
  refine wpAnyH_take (i := 7) (oi := { dst := some 4, op := _, type := _, pos := _, after := _, guard := _ }) (v := ?_) rfl (by kernel_rfl) (by kernel_rfl) (by kernel_rfl) (fun _ _ _ h => h) (Or.inl ⟨by rfl, ?_⟩) (by assumption) ?_
  rotate_left
  · (intro w hSw; (try dsimp only at hSw); go_simp); (try with_reducible rfl)
  simp only [Act.put, List.setIfInBounds_toArray, List.set_cons_zero, List.set_cons_succ]
  refine wpAnyH_done (by kernel_rfl) ?_ _
  have hE3 := Rg.hid (hE0.out.below b3.out)
  have hB3 := Rg.hid (Rg.chain b0.out b3.out)
  have hB3e : Hid (Below eb W w3) := hB3.out.mono (Nat.le_of_lt h.bk.lt)
  obtain ⟨_, m0, m1, m2, m3, m4, m5⟩ := hS3.out
  clear hS3 c10 f0 f1 f2 f3 f4 f5 HE1 b0 b3 kF0 hE0 hB3 hF hwn
  have HC1 := Rg.hid (icome_any hE3.out kd nm ak ch ca D hw (by omega))
  clear h
  go_upto_region 6 with (go_at_call 78; refine HC1.out.mono ?_; rintro e w4 ⟨rfl, cv4, h4, f4⟩)
  have hI : Hid (∃ d1 p1 q1 m l1, DI Kp eb S C R W w4 d1 p1 q1 m l1) := DI.start h4 ho hR.out (hB3e.out.trans f4) hw hn15
  replace hC := Rg.hid hC
  clear HC1 hE3 hB3e h4 f4 hn15 hw m0 m1 m2 m3 m4 m5 ho hR
  go_loopw [24] (fun _ wr => Hid (∃ d1 p1 q1 m l1, DI Kp eb S C R W wr d1 p1 q1 m l1)) (fun _ wr => iaheadLen eb wr)
  case atStart => exact hI
  case round =>
    clear hI
    obtain ⟨d1', p1, q1, m, l1, hdi⟩ := hrel.out
    clear hrel
    have hal := Rg.hid hdi.at_.aheadLen
    have c10 : wr.cell? ⟨eb, 10, none⟩ = some (.int .i64 d1'.wants) := hdi.at_.bk.cell 10
    by_cases hne : ∃ g r, d1'.ahead = g :: r
    · obtain ⟨g, r, har⟩ := hne
      obtain ⟨gb, eg, hao⟩ : ∃ gb, q1.ag = some gb ∧ AO wr eb gb p1.a p1.ac d1'.ahead := by
        rcases hdi.at_.ahead with ⟨e0, _⟩ | hx
        · have := (hdi.ow e0).1
          rw [har] at this
          cases this
        · exact hx
      have hac := hdi.at_.acap
      have c11 : wr.cell? ⟨eb, 11, none⟩ = some (.slice p1.a (r.length + 1) p1.ac) := by
        have := hdi.at_.bk.cell 11
        rw [this]
        show some (Value.slice p1.a d1'.ahead.length p1.ac) = _
        rw [har, List.length_cons]
      rw [har] at hao hac
      rw [List.length_cons] at hac
      have hao0 := hao
      obtain ⟨hgb, o, cur, ea, h3, h3b, h5⟩ := hao0
      have hcell : ∀ t u, (fiE.enc g)[t]? = some u → wr.cell? ⟨gb, o + t, none⟩ = some u := fun t u ht => by
        have e := fiE.flat_cons g r
        have := h5 t u (by rw [e, List.getElem?_append_left (List.getElem?_eq_some_iff.1 ht).1]; exact ht)
        simp only [World.cell?, h3]
        exact this
      obtain ⟨gk, gn, ga, gc, gbb, gd⟩ := g
      have y0 : wr.cell? ⟨gb, o, none⟩ = some (.int .i64 gk) := hcell 0 _ rfl
      have y1 : wr.cell? ⟨gb, o + 1, none⟩ = some (.int .i64 gn) := hcell 1 _ rfl
      have y2 : wr.cell? ⟨gb, o + 2, none⟩ = some (.int .i64 ga) := hcell 2 _ rfl
      have y3 : wr.cell? ⟨gb, o + 3, none⟩ = some (.int .i64 gc) := hcell 3 _ rfl
      have y4 : wr.cell? ⟨gb, o + 4, none⟩ = some (.bool gbb) := hcell 4 _ rfl
      have y5 : wr.cell? ⟨gb, o + 5, none⟩ = some (.string gd) := hcell 5 _ rfl
      rw [ea] at c11 hao
      obtain ⟨n, hn, hn0, iz, dn1, dn2⟩ := inum r.length
      rw [← hn.out] at c11
      replace hao := Rg.hid hao
      replace hac := Rg.hid hac
      obtain ⟨w0, hw0⟩ : ∃ w0, w0 = d1'.wants := ⟨_, rfl⟩
      rw [← hw0] at c10
      by_cases hq : gn = w0
      · have e1 : (gn == w0) = true := beq_iff_eq.2 hq
        have e2 : decide (gn = w0) = true := decide_eq_true hq
        replace hw0 := Rg.hid hw0
        replace hq := Rg.hid hq
        clear HS h5 hcell h3 h3b
        go_wp2
        go_quiet (fail)
        have hdi2 := Rg.hid (hdi.drewN nq)
        have hao2 : Hid (AO (wr.drewN nq) eb gb (some ⟨gb, o, none⟩) p1.ac (⟨gk, gn, ga, gc, gbb, gd⟩ :: r)) := hao.out.kept rfl
        replace y0 : (wr.drewN nq).cell? ⟨gb, o, none⟩ = some (.int .i64 gk) := y0
        replace y1 : (wr.drewN nq).cell? ⟨gb, o + 1, none⟩ = some (.int .i64 gn) := y1
        replace y2 : (wr.drewN nq).cell? ⟨gb, o + 2, none⟩ = some (.int .i64 ga) := y2
        replace y3 : (wr.drewN nq).cell? ⟨gb, o + 3, none⟩ = some (.int .i64 gc) := y3
        replace y4 : (wr.drewN nq).cell? ⟨gb, o + 4, none⟩ = some (.bool gbb) := y4
        replace y5 : (wr.drewN nq).cell? ⟨gb, o + 5, none⟩ = some (.string gd) := y5
        replace c11 : (wr.drewN nq).cell? ⟨eb, 11, none⟩ = some (.slice (some ⟨gb, o, none⟩) n p1.ac) := c11
        clear c10 hdi hao e1 e2 dn1 dn2
        generalize World.drewN _ _ = w5 at *
        have HC2 := Rg.hid (icome_any hdi2.out.at_ gk gn ga gc gbb gd hdi2.out.wn (hdi2.out.clen hC.out))
        go_upto_region 8 with (go_at_call 78; refine HC2.out.mono ?_; rintro e w6 ⟨rfl, cv6, h6, f6⟩)
        replace h6 := Rg.hid h6
        obtain ⟨M, hM⟩ : ∃ M, r.length = M := ⟨_, rfl⟩
        have hao6 : AO w6 eb gb (some ⟨gb, o, none⟩) p1.ac (⟨gk, gn, ga, gc, gbb, gd⟩ :: r) := by
          have h6a : ({ q1 with cv := cv6 } : Qv).ag = some gb := eg
          rcases h6.out.ahead with ⟨e0, _⟩ | ⟨g2, e2, ha2⟩
          · rw [h6a] at e0; cases e0
          · rw [h6a] at e2
            cases e2
            have e3 : AO w6 eb gb p1.a p1.ac d1'.ahead := ha2
            rw [ea, har] at e3
            exact e3
        have key : ∀ oo, (oo = o + 6 ∨ (oo = o ∧ p1.ac = 1)) → (∃ d2 p2 q2 m2 l2, DI Kp eb S C R W (w6.setCell ⟨eb, 11, none⟩ (.slice (some ⟨gb, oo, none⟩) M (p1.ac - 1))) d2 p2 q2 m2 l2) ∧ iaheadLen eb (w6.setCell ⟨eb, 11, none⟩ (.slice (some ⟨gb, oo, none⟩) M (p1.ac - 1))) = M := fun oo hoo => by
          have h7 := h6.out.setAhead (Below.refl eb w6) (fun k _ _ => rfl) (hao6.tail hac.out oo hoo) (Nat.le_sub_one_of_lt hac.out) (.inl eg)
          rw [hM] at h7
          exact hdi2.out.next har (hq.out.trans hw0.out) f6 hM (below_set eb 11 _) h7
        have c11b : w6.cell? ⟨eb, 11, none⟩ = some (.slice (some ⟨gb, o, none⟩) (M + 1) p1.ac) := by
          have := h6.out.bk.cell 11
          rw [this]
          show some (Value.slice p1.a d1'.ahead.length p1.ac) = _
          rw [ea, har, List.length_cons, hM]
        have fz6 := h6.out.bk.thaw
        have hmes : Hid (M < iaheadLen eb wr) := by show M < _; rw [hal.out, har, List.length_cons, hM]; exact Nat.lt_succ_self M
        have hacm : Hid (M + 1 ≤ p1.ac) := by show M + 1 ≤ _; rw [← hM]; exact hac.out
        obtain ⟨ac, hac2⟩ : ∃ ac, ac = p1.ac := ⟨_, rfl⟩
        rw [← hac2] at key c11b hacm
        replace key := Rg.hid key
        have hnM : n = M + 1 := by rw [hn.out, hM]
        subst hnM
        clear HC2 h6 f6 hdi2 hao2 hao6 hM hac hac2 hq hw0 har ea eg y0 y1 y2 y3 y4 y5 c11 hal hn hgb iz
        by_cases hc1 : ac = 1
        · obtain ⟨k1, k2⟩ := key.out o (.inr ⟨rfl, hc1⟩)
          subst hc1
          have hM0 : M = 0 := Nat.le_zero.1 (Nat.le_of_succ_le_succ hacm.out)
          subst hM0
          replace k1 := Rg.hid k1
          replace k2 := Rg.hid k2
          replace hacm := hacm.out
          clear key hacm
          go_wp2
          exact ⟨k1, by rw [k2.out]; exact hmes.out⟩
        · obtain ⟨k1, k2⟩ := key.out (o + 6) (.inl rfl)
          have q4 : (1 : Int) ≤ (ac : Int) := Int.ofNat_le.2 (Nat.le_trans (Nat.succ_le_succ (Nat.zero_le M)) hacm.out)
          replace k1 := Rg.hid k1
          replace k2 := Rg.hid k2
          clear key
          go_wp2
          exact ⟨k1, by rw [k2.out]; exact hmes.out⟩
      · have e1 : (gn == w0) = false := beq_eq_false_iff_ne.2 hq
        have e2 : decide (gn = w0) = false := decide_eq_false hq
        have hst := Rg.hid ((Ip.drain_stop (d := d1') (l := l1) (fun g2 r2 h2 => by rw [har] at h2; cases h2; rw [← hw0]; exact hq) m).symm.trans hdi.math)
        replace hq := Rg.hid hq
        replace hw0 := Rg.hid hw0
        clear h5 hcell h3 h3b
        go_wp2
        go_quiet (fail)
        have hdi2 := Rg.hid (hdi.drewN nq)
        clear c10 hdi hao e1 e2 dn1 dn2 y0 y1 y2 y3 y4 y5 c11 hal hn hn0 iz hac hq hw0 har hgb ea eg
        generalize World.drewN _ _ = w5 at *
        have HS1 := Rg.hid (HS.out w5 d1' p1 q1 l1 hst.out hdi2.out.at_ hdi2.out.ow hdi2.out.wn hdi2.out.bel)
        clear HS hdi2 hst
        go_wp2_with (go_at_call 79; refine HS1.out.mono ?_; rintro e w7 ⟨rfl, hp⟩)
        go_end0
        exact hp
    · have hl0 : d1'.ahead = [] := by
        cases h0 : d1'.ahead with
        | nil => rfl
        | cons g r => exact absurd ⟨g, r, h0⟩ hne
      have c11 : wr.cell? ⟨eb, 11, none⟩ = some (.slice p1.a 0 p1.ac) := by
        have := hdi.at_.bk.cell 11
        rw [this]
        show some (Value.slice p1.a d1'.ahead.length p1.ac) = _
        rw [hl0]
        rfl
      have hst := Rg.hid ((Ip.drain_stop (d := d1') (l := l1) (fun g2 r2 h2 => by rw [hl0] at h2; cases h2) m).symm.trans hdi.math)
      clear hl0 hne
      go_wp2
      go_quiet (fail)
      have hdi2 := Rg.hid (hdi.drewN nq)
      clear c10 hdi c11 hal
      generalize World.drewN _ _ = w5 at *
      have HS1 := Rg.hid (HS.out w5 d1' p1 q1 l1 hst.out hdi2.out.at_ hdi2.out.ow hdi2.out.wn hdi2.out.bel)
      clear HS hdi2 hst
      go_wp2_with (go_at_call 79; refine HS1.out.mono ?_; rintro e w7 ⟨rfl, hp⟩)
      go_end0
      exact hp
end Go.Proofs.Ytlclfkogbfigbaa
