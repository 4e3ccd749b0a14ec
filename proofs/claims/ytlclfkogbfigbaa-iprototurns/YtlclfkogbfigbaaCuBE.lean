/-
  Walks of layer 16: takeOther whole, take. Walks of layer 16: slices.Clone of the packets that came early; lengths. Walks of layer 12: what a head says; the data behind it.
-/
import Derived.Test.YtlclfkogbfigbaaCuBD
import Derived.Test.YtlclfkogbfigbaaCuAH
import Derived.Test.YtlclfkogbfigbaaCuAI
namespace Go.Proofs.Ytlclfkogbfigbaa
open Go.RowKit
set_option maxHeartbeats 4000000 in
set_option maxRecDepth 100000 in
theorem itakeData_none {Kp : Nat → Prop} {W : World} {eb : Nat} {d : Gp.Dr} {p : Pl} {q : Qv} {S : List UInt8} {C : List Gp.Pc} (h : IAt Kp W eb d p q S C) (kd nm ak ch : Int) (ca : Bool) (K0 : Int) (hK : Ip.early d.wants nm = K0) (Post : Ending → World → Prop) (HP : ∀ W1, IAt Kp W1 eb d p q S C → Below eb W W1 → Post (.returned (.tuple #[])) W1) :
    Calls Try.prog 65 #[.pointer (some ⟨eb, 0, none⟩), .agg #[.int .i64 kd, .int .i64 nm, .int .i64 ak, .int .i64 ch, .bool ca, .string ⟨#[]⟩]] W Post := by
  have b0 := Rg.hid (Rg.al1 W (.cells #[.int .i64 kd, .int .i64 nm, .int .i64 ak, .int .i64 ch, .bool ca, .string ⟨#[]⟩] 63))
  have kF0 : Hid (Rg.Bk W.heap.size [.int .i64 kd, .int .i64 nm, .int .i64 ak, .int .i64 ch, .bool ca, .string ⟨#[]⟩] 63 (W.alloc (.cells #[.int .i64 kd, .int .i64 nm, .int .i64 ak, .int .i64 ch, .bool ca, .string ⟨#[]⟩] 63))) := Rg.Bk.new rfl
  obtain ⟨wn, hwn⟩ : ∃ wn, wn = d.wants := ⟨_, rfl⟩
  have hE0 := Rg.hid (h.below b0.out)
  have c10 : (W.alloc (.cells #[.int .i64 kd, .int .i64 nm, .int .i64 ak, .int .i64 ch, .bool ca, .string ⟨#[]⟩] 63)).cell? ⟨eb, 10, none⟩ = some (.int .i64 wn) := by rw [hwn]; exact hE0.out.bk.cell 10
  have hEr := iearly_any d.wants kd nm ak ch ca ⟨#[]⟩
  rw [hK, ← hwn] at hEr
  replace hwn := Rg.hid hwn
  go_enter Try.func65, Try.ntmps65
  go_upto_region 1 with fail
  generalize World.alloc _ _ = w1 at *
  obtain ⟨F, hF⟩ : ∃ F, F = W.heap.size := ⟨_, rfl⟩
  rw [← hF] at kF0 ⊢
  replace hF := Rg.hid hF
  have f0 : w1.cell? ⟨F, 0, none⟩ = some (.int .i64 kd) := kF0.out.cell 0
  have f1 : w1.cell? ⟨F, 1, none⟩ = some (.int .i64 nm) := kF0.out.cell 1
  have f2 : w1.cell? ⟨F, 2, none⟩ = some (.int .i64 ak) := kF0.out.cell 2
  have f3 : w1.cell? ⟨F, 3, none⟩ = some (.int .i64 ch) := kF0.out.cell 3
  have f4 : w1.cell? ⟨F, 4, none⟩ = some (.bool ca) := kF0.out.cell 4
  have f5 : w1.cell? ⟨F, 5, none⟩ = some (.string ⟨#[]⟩) := kF0.out.cell 5
  have HE1 : Hid (Calls Try.prog 74 #[.int .i64 wn, .agg #[.int .i64 kd, .int .i64 nm, .int .i64 ak, .int .i64 ch, .bool ca, .string ⟨#[]⟩]] w1.drew fun e w' => e = .returned (.int .i64 K0) ∧ Hid (Below w1.heap.size w1 w') ∧ Hid (w'.cell? ⟨eb, 10, none⟩ = some (.int .i64 wn) ∧ w'.cell? ⟨F, 0, none⟩ = some (.int .i64 kd) ∧ w'.cell? ⟨F, 1, none⟩ = some (.int .i64 nm) ∧ w'.cell? ⟨F, 2, none⟩ = some (.int .i64 ak) ∧ w'.cell? ⟨F, 3, none⟩ = some (.int .i64 ch) ∧ w'.cell? ⟨F, 4, none⟩ = some (.bool ca) ∧ w'.cell? ⟨F, 5, none⟩ = some (.string ⟨#[]⟩))) := (hEr w1.drew).mono fun e w' ⟨x1, x2'⟩ => by
    have x2 : Below w1.heap.size w1 w' := ((Below.refl w1.heap.size w1).drew).trans x2'
    have hk := (Rg.bcell (W := w1) (w1 := w') x2).1
    have l1 : eb < w1.heap.size := hE0.out.bk.lt
    exact ⟨x1, x2, (hk _ _ l1).trans c10, (hk _ _ kF0.out.lt).trans f0, (hk _ _ kF0.out.lt).trans f1, (hk _ _ kF0.out.lt).trans f2, (hk _ _ kF0.out.lt).trans f3, (hk _ _ kF0.out.lt).trans f4, (hk _ _ kF0.out.lt).trans f5⟩
  clear hEr
  refine wp_region_held_drew (S := (fun (w' : World) => w'.cell? ⟨eb, 10, none⟩ = some (.int .i64 wn) ∧ w'.cell? ⟨F, 0, none⟩ = some (.int .i64 kd) ∧ w'.cell? ⟨F, 1, none⟩ = some (.int .i64 nm) ∧ w'.cell? ⟨F, 2, none⟩ = some (.int .i64 ak) ∧ w'.cell? ⟨F, 3, none⟩ = some (.int .i64 ch) ∧ w'.cell? ⟨F, 4, none⟩ = some (.bool ca) ∧ w'.cell? ⟨F, 5, none⟩ = some (.string ⟨#[]⟩))) (by kernel_rfl) ?_ (fun hH0 => ?_)
  · exact ⟨c10, f0, f1, f2, f3, f4, f5⟩
  refine wpAnyH_take (i := 0) (oi := { dst := some 5, op := _, type := _, pos := _, after := _, guard := _ }) (v := ?_) rfl (by kernel_rfl) (by kernel_rfl) (by kernel_rfl) (fun _ _ _ h => h) (Or.inl ⟨by rfl, ?_⟩) (by assumption) ?_
  rotate_left
  · (intro w hSw; (try dsimp only at hSw); go_simp); (try with_reducible rfl)
  simp only [Act.put, List.setIfInBounds_toArray, List.set_cons_zero, List.set_cons_succ]
  refine wpAnyH_take (i := 1) (oi := { dst := some 6, op := _, type := _, pos := _, after := _, guard := _ }) (v := ?_) rfl (by kernel_rfl) (by kernel_rfl) (by kernel_rfl) (fun _ _ _ h => h) (Or.inl ⟨by rfl, ?_⟩) (by assumption) ?_
  rotate_left
  · (intro w hSw; (try dsimp only at hSw); go_simp); (try with_reducible rfl)
  simp only [Act.put, List.setIfInBounds_toArray, List.set_cons_zero, List.set_cons_succ]
  refine wpAnyH_take (i := 2) (oi := { dst := some 7, op := _, type := _, pos := _, after := _, guard := _ }) (v := ?_) rfl (by kernel_rfl) (by kernel_rfl) (by kernel_rfl) (fun _ _ _ h => h) (Or.inl ⟨by rfl, ?_⟩) (by assumption) ?_
  rotate_left
  · (intro w hSw; (try dsimp only at hSw); go_simp); (try with_reducible rfl)
  simp only [Act.put, List.setIfInBounds_toArray, List.set_cons_zero, List.set_cons_succ]
  refine wpAnyH_take (i := 3) (oi := { dst := some 8, op := _, type := _, pos := _, after := _, guard := _ }) (v := ?_) rfl (by kernel_rfl) (by kernel_rfl) (by kernel_rfl) (fun _ _ _ h => h) (Or.inl ⟨by rfl, ?_⟩) (by assumption) ?_
  rotate_left
  · (intro w hSw; (try dsimp only at hSw); go_simp); (try with_reducible rfl)
  simp only [Act.put, List.setIfInBounds_toArray, List.set_cons_zero, List.set_cons_succ]
  refine wpAnyH_take (i := 4) (oi := { dst := some 9, op := _, type := _, pos := _, after := _, guard := _ }) (v := ?_) rfl (by kernel_rfl) (by kernel_rfl) (by kernel_rfl) (fun _ _ _ h => h) (Or.inl ⟨by rfl, ?_⟩) (by assumption) ?_
  rotate_left
  · (intro w hSw; (try dsimp only at hSw); go_simp); (try with_reducible rfl)
  simp only [Act.put, List.setIfInBounds_toArray, List.set_cons_zero, List.set_cons_succ]
  refine wpAnyH_take (i := 5) (oi := { dst := some 10, op := _, type := _, pos := _, after := _, guard := _ }) (v := ?_) rfl (by kernel_rfl) (by kernel_rfl) (by kernel_rfl) (fun _ _ _ h => h) (Or.inl ⟨by rfl, ?_⟩) (by assumption) ?_
  rotate_left
  · (intro w hSw; (try dsimp only at hSw); go_simp); (try with_reducible rfl)
  simp only [Act.put, List.setIfInBounds_toArray, List.set_cons_zero, List.set_cons_succ]
  refine wpAnyH_ready (rs := [6]) (by kernel_rfl) (by simp) ?_
  refine AllReadyH.cons (o := { dst := some 11, op := _, type := _, pos := _, after := _, guard := _ }) rfl (fun K hK => ?_) AllReadyH.nil
  go_simp
  go_at_call 74; refine HE1.out.mono ?_; rintro e w3 ⟨rfl, b3, hS3⟩
  refine hK.out _ _ ?_ (fun hR6 => ?_)
  · exact hS3.out
  clear hK K hH0
  try simp only [Act.put, List.setIfInBounds_toArray, List.set_cons_zero, List.set_cons_succ]
  refine wpAnyH_take (i := 7) (oi := { dst := some 4, op := _, type := _, pos := _, after := _, guard := _ }) (v := ?_) rfl (by kernel_rfl) (by kernel_rfl) (by kernel_rfl) (fun _ _ _ h => h) (Or.inl ⟨by rfl, ?_⟩) (by assumption) ?_
  rotate_left
  · (intro w hSw; (try dsimp only at hSw); go_simp); (try with_reducible rfl)
  simp only [Act.put, List.setIfInBounds_toArray, List.set_cons_zero, List.set_cons_succ]
  refine wpAnyH_done (by kernel_rfl) ?_ _
  have hE3 := Rg.hid (hE0.out.below b3.out)
  have hB3 := Rg.hid (Rg.chain b0.out b3.out)
  have hB3e : Hid (Below eb W w3) := hB3.out.mono (Nat.le_of_lt h.bk.lt)
  obtain ⟨_, m0, m1, m2, m3, m4, m5⟩ := hS3.out
  clear hS3 c10 f0 f1 f2 f3 f4 f5 HE1 b0 b3 kF0 hE0 hB3 hF hwn
  have hp := HP w3 hE3.out hB3e.out
  clear HP h hE3 hB3e
  go_wp2
  go_end0
  exact hp
theorem itakeOther_any {Kp : Nat → Prop} {W : World} {eb : Nat} {d : Gp.Dr} {p : Pl} {q : Qv} {S : List UInt8} {C : List Gp.Pc} (h : IAt Kp W eb d p q S C) (ho : IOw d p q) (hr : Ip.right d) (f : If.Fr) (hf : 0 ≤ f.nm ∧ f.nm ≤ 31) (hC : C.length ≤ 900000) (hlen : S.length + 4200 ≤ 140737488355328) :
    Calls Try.prog 43 #[.pointer (some ⟨eb, 0, none⟩), .agg #[.int .i64 f.kd, .int .i64 f.nm, .int .i64 f.ak, .int .i64 f.ch, .bool f.ca, .string ⟨f.data.toArray⟩]] W fun e w' => IPC Kp eb W (Ip.takes2 d f) S C e w' := by
  have hb := hr.1
  unfold Ip.takes2
  by_cases p3 : d.phase = 3
  · rw [if_pos p3]
    refine itakeOther_closing h f.kd f.nm f.ak f.ch f.ca _ _ p3 fun W1 h1 f1 => ?_
    exact IPO.go f1 ho (isayClose_any h1 hb.wn (by omega)) |>.mono fun e w' ⟨x1, x2⟩ => ⟨x1, x2.c⟩
  rw [if_neg p3]
  by_cases p2 : d.phase ≠ 2
  · rw [if_pos p2]
    exact itakeOther_none h f.kd f.nm f.ak f.ch f.ca _ _ d.phase rfl (by simpa using p3) (by simpa using p2) fun W1 h1 f1 => ⟨rfl, p, q, by rw [List.append_nil, List.append_nil]; exact h1, ho, f1⟩
  rw [if_neg p2]
  have hp2 : d.phase = 2 := Classical.byContradiction fun x => p2 x
  have hrun : Ip.runs d := by
    rcases hr.2 with ⟨h, _⟩ | ⟨_, h⟩ | h | h | h
    · omega
    · exact h
    all_goals omega
  obtain ⟨ab, ar⟩ := Ip.right_acked hb hrun f.ak
  dsimp only
  by_cases k3 : f.kd = 3
  · rw [if_pos k3]
    refine itakeOther_nak h f.kd f.nm f.ak f.ch f.ca _ _ hp2 k3 fun W1 a c h1 f1 => ?_
    have hn := itakeNak_o h1 ho ab f.nm hf hlen
    refine hn.mono fun e w' hp => ⟨hp.1, ?_⟩
    have hp2 : IPO Kp eb W1 (Gp.acked d f.ak) (S ++ Ip.naked (Gp.acked d f.ak) f.nm) C (.returned (.tuple #[])) w' := ⟨rfl, hp.2⟩
    have := (hp2.from f1).c
    unfold Ip.naked at this
    cases hx : Wn.find (Gp.acked d f.ak).win f.nm with
    | none => rw [hx] at this; exact this
    | some s => rw [hx] at this; exact this
  rw [if_neg k3]
  by_cases k0 : f.kd = 0
  · by_cases hd : f.data = []
    · rw [if_neg (fun x => x.2 hd)]
      refine itakeOther_data h f.kd f.nm f.ak f.ch f.ca _ _ hp2 k0 fun W1 a c h1 f1 => ?_
      rw [hd]
      exact itakeData_none h1 f.kd f.nm f.ak f.ch f.ca _ rfl _ fun W2 h2 f2 => ⟨rfl, rfl, { p with w := a, wc := c }, q, by rw [List.append_nil, List.append_nil]; exact h2, ho, f1.trans f2⟩
    · rw [if_pos ⟨k0, hd⟩]
      refine itakeOther_data h f.kd f.nm f.ak f.ch f.ca _ _ hp2 k0 fun W1 a c h1 f1 => ?_
      exact (itakeData_any h1 ho ab f hf hd hC (by omega)).mono fun e w' hp => ⟨hp.1, IPC.from (show IPC Kp eb W1 _ S C (.returned (.tuple #[])) w' from ⟨rfl, hp.2⟩) f1⟩
  · rw [if_neg (fun x => k0 x.1)]
    exact itakeOther_ack h f.kd f.nm f.ak f.ch f.ca _ _ hp2 (by simpa using k3) (by simpa using k0) fun W1 a c h1 f1 => ⟨rfl, { p with w := a, wc := c }, q, by rw [List.append_nil, List.append_nil]; exact h1, ho, f1⟩
set_option maxHeartbeats 4000000 in
set_option maxRecDepth 100000 in
theorem itake_sync {Kp : Nat → Prop} {W : World} {eb : Nat} {d : Gp.Dr} {p : Pl} {q : Qv} {S : List UInt8} {C : List Gp.Pc} (h : IAt Kp W eb d p q S C) (kd nm ak ch : Int) (ca : Bool) (D : ByteArray) (Post : Ending → World → Prop) (hk : kd = 1) (HS : Hid (∀ W1, IAt Kp W1 eb d p q S C → Below eb W W1 → Calls Try.prog 41 #[.pointer (some ⟨eb, 0, none⟩), .string D] W1 fun e w' => e = .returned (.tuple #[]) ∧ Post (.returned (.tuple #[])) w')) :
    Calls Try.prog 28 #[.pointer (some ⟨eb, 0, none⟩), .agg #[.int .i64 kd, .int .i64 nm, .int .i64 ak, .int .i64 ch, .bool ca, .string D]] W Post := by
  subst hk
  have b0 := Rg.hid (Rg.al1 W (.cells #[.int .i64 1, .int .i64 nm, .int .i64 ak, .int .i64 ch, .bool ca, .string D] 63))
  have kF0 : Hid (Rg.Bk W.heap.size [.int .i64 1, .int .i64 nm, .int .i64 ak, .int .i64 ch, .bool ca, .string D] 63 (W.alloc (.cells #[.int .i64 1, .int .i64 nm, .int .i64 ak, .int .i64 ch, .bool ca, .string D] 63))) := Rg.Bk.new rfl
  have hE0 := Rg.hid (h.below b0.out)
  have bE0 : Hid (Below eb W (W.alloc (.cells #[.int .i64 1, .int .i64 nm, .int .i64 ak, .int .i64 ch, .bool ca, .string D] 63))) := b0.out.mono (Nat.le_of_lt h.bk.lt)
  go_enter Try.func28, Try.ntmps28
  go_upto_region 1 with fail
  generalize World.alloc _ _ = w1 at *
  obtain ⟨F, hF⟩ : ∃ F, F = W.heap.size := ⟨_, rfl⟩
  rw [← hF] at kF0 ⊢
  replace hF := Rg.hid hF
  have f0 : w1.cell? ⟨F, 0, none⟩ = some (.int .i64 1) := kF0.out.cell 0
  have f1 : w1.cell? ⟨F, 1, none⟩ = some (.int .i64 nm) := kF0.out.cell 1
  have f2 : w1.cell? ⟨F, 2, none⟩ = some (.int .i64 ak) := kF0.out.cell 2
  have f3 : w1.cell? ⟨F, 3, none⟩ = some (.int .i64 ch) := kF0.out.cell 3
  have f4 : w1.cell? ⟨F, 4, none⟩ = some (.bool ca) := kF0.out.cell 4
  have f5 : w1.cell? ⟨F, 5, none⟩ = some (.string D) := kF0.out.cell 5
  have HS1 := Rg.hid (HS.out w1 hE0.out bE0.out)
  clear HS h hE0 bE0 b0 kF0
  go_wp2_with (go_at_call 41; refine HS1.out.mono ?_; rintro e w4 ⟨rfl, hp⟩)
  go_end0
  exact hp
set_option maxHeartbeats 4000000 in
set_option maxRecDepth 100000 in
theorem itake_close {Kp : Nat → Prop} {W : World} {eb : Nat} {d : Gp.Dr} {p : Pl} {q : Qv} {S : List UInt8} {C : List Gp.Pc} (h : IAt Kp W eb d p q S C) (kd nm ak ch : Int) (ca : Bool) (D : ByteArray) (Post : Ending → World → Prop) (hk : kd = 5) (HS : Hid (∀ W1, IAt Kp W1 eb d p q S C → Below eb W W1 → Calls Try.prog 42 #[.pointer (some ⟨eb, 0, none⟩)] W1 fun e w' => e = .returned (.tuple #[]) ∧ Post (.returned (.tuple #[])) w')) :
    Calls Try.prog 28 #[.pointer (some ⟨eb, 0, none⟩), .agg #[.int .i64 kd, .int .i64 nm, .int .i64 ak, .int .i64 ch, .bool ca, .string D]] W Post := by
  subst hk
  have b0 := Rg.hid (Rg.al1 W (.cells #[.int .i64 5, .int .i64 nm, .int .i64 ak, .int .i64 ch, .bool ca, .string D] 63))
  have kF0 : Hid (Rg.Bk W.heap.size [.int .i64 5, .int .i64 nm, .int .i64 ak, .int .i64 ch, .bool ca, .string D] 63 (W.alloc (.cells #[.int .i64 5, .int .i64 nm, .int .i64 ak, .int .i64 ch, .bool ca, .string D] 63))) := Rg.Bk.new rfl
  have hE0 := Rg.hid (h.below b0.out)
  have bE0 : Hid (Below eb W (W.alloc (.cells #[.int .i64 5, .int .i64 nm, .int .i64 ak, .int .i64 ch, .bool ca, .string D] 63))) := b0.out.mono (Nat.le_of_lt h.bk.lt)
  go_enter Try.func28, Try.ntmps28
  go_upto_region 1 with fail
  generalize World.alloc _ _ = w1 at *
  obtain ⟨F, hF⟩ : ∃ F, F = W.heap.size := ⟨_, rfl⟩
  rw [← hF] at kF0 ⊢
  replace hF := Rg.hid hF
  have f0 : w1.cell? ⟨F, 0, none⟩ = some (.int .i64 5) := kF0.out.cell 0
  have f1 : w1.cell? ⟨F, 1, none⟩ = some (.int .i64 nm) := kF0.out.cell 1
  have f2 : w1.cell? ⟨F, 2, none⟩ = some (.int .i64 ak) := kF0.out.cell 2
  have f3 : w1.cell? ⟨F, 3, none⟩ = some (.int .i64 ch) := kF0.out.cell 3
  have f4 : w1.cell? ⟨F, 4, none⟩ = some (.bool ca) := kF0.out.cell 4
  have f5 : w1.cell? ⟨F, 5, none⟩ = some (.string D) := kF0.out.cell 5
  have HS1 := Rg.hid (HS.out w1 hE0.out bE0.out)
  clear HS h hE0 bE0 b0 kF0
  go_wp2_with (go_at_call 42; refine HS1.out.mono ?_; rintro e w4 ⟨rfl, hp⟩)
  go_end0
  exact hp
set_option maxHeartbeats 4000000 in
set_option maxRecDepth 100000 in
theorem itake_other {Kp : Nat → Prop} {W : World} {eb : Nat} {d : Gp.Dr} {p : Pl} {q : Qv} {S : List UInt8} {C : List Gp.Pc} (h : IAt Kp W eb d p q S C) (kd nm ak ch : Int) (ca : Bool) (D : ByteArray) (Post : Ending → World → Prop) (k1 : (kd == 1) = false) (k5 : (kd == 5) = false) (HS : Hid (∀ W1, IAt Kp W1 eb d p q S C → Below eb W W1 → Calls Try.prog 43 #[.pointer (some ⟨eb, 0, none⟩), .agg #[.int .i64 kd, .int .i64 nm, .int .i64 ak, .int .i64 ch, .bool ca, .string D]] W1 fun e w' => e = .returned (.tuple #[]) ∧ Post (.returned (.tuple #[])) w')) :
    Calls Try.prog 28 #[.pointer (some ⟨eb, 0, none⟩), .agg #[.int .i64 kd, .int .i64 nm, .int .i64 ak, .int .i64 ch, .bool ca, .string D]] W Post := by
  have b0 := Rg.hid (Rg.al1 W (.cells #[.int .i64 kd, .int .i64 nm, .int .i64 ak, .int .i64 ch, .bool ca, .string D] 63))
  have kF0 : Hid (Rg.Bk W.heap.size [.int .i64 kd, .int .i64 nm, .int .i64 ak, .int .i64 ch, .bool ca, .string D] 63 (W.alloc (.cells #[.int .i64 kd, .int .i64 nm, .int .i64 ak, .int .i64 ch, .bool ca, .string D] 63))) := Rg.Bk.new rfl
  have hE0 := Rg.hid (h.below b0.out)
  have bE0 : Hid (Below eb W (W.alloc (.cells #[.int .i64 kd, .int .i64 nm, .int .i64 ak, .int .i64 ch, .bool ca, .string D] 63))) := b0.out.mono (Nat.le_of_lt h.bk.lt)
  go_enter Try.func28, Try.ntmps28
  go_upto_region 1 with fail
  generalize World.alloc _ _ = w1 at *
  obtain ⟨F, hF⟩ : ∃ F, F = W.heap.size := ⟨_, rfl⟩
  rw [← hF] at kF0 ⊢
  replace hF := Rg.hid hF
  have f0 : w1.cell? ⟨F, 0, none⟩ = some (.int .i64 kd) := kF0.out.cell 0
  have f1 : w1.cell? ⟨F, 1, none⟩ = some (.int .i64 nm) := kF0.out.cell 1
  have f2 : w1.cell? ⟨F, 2, none⟩ = some (.int .i64 ak) := kF0.out.cell 2
  have f3 : w1.cell? ⟨F, 3, none⟩ = some (.int .i64 ch) := kF0.out.cell 3
  have f4 : w1.cell? ⟨F, 4, none⟩ = some (.bool ca) := kF0.out.cell 4
  have f5 : w1.cell? ⟨F, 5, none⟩ = some (.string D) := kF0.out.cell 5
  have HS1 := Rg.hid (HS.out w1 hE0.out bE0.out)
  clear HS h hE0 bE0 b0 kF0
  go_wp2_with (go_at_call 43; refine HS1.out.mono ?_; rintro e w4 ⟨rfl, hp⟩)
  go_end0
  exact hp
/-- a packet from the other end -/
def Ip.take1 (d : Gp.Dr) (f : If.Fr) : Gp.Dr × List UInt8 × List Gp.Pc :=
  if f.kd = 1 then ((Ip.opens d f.data).1, (Ip.opens d f.data).2, [])
  else if f.kd = 5 then ((Ip.closes d).1, (Ip.closes d).2, [])
  else Ip.takes2 d f
theorem Ip.takes_1 (d : Gp.Dr) (f : If.Fr) : Ip.takes d f = if f.ca = d.caller then (d, [], []) else Ip.take1 { d with wait := Gp.or2 d.wait } f := rfl
theorem itake_any {Kp : Nat → Prop} {W : World} {eb : Nat} {d : Gp.Dr} {p : Pl} {q : Qv} {S : List UInt8} {C : List Gp.Pc} (h : IAt Kp W eb d p q S C) (ho : IOw d p q) (hr : Ip.right d) (f : If.Fr) (hf : 0 ≤ f.nm ∧ f.nm ≤ 31) (hC : C.length ≤ 900000) (hlen : S.length + 4200 ≤ 140737488355328) :
    Calls Try.prog 28 #[.pointer (some ⟨eb, 0, none⟩), .agg #[.int .i64 f.kd, .int .i64 f.nm, .int .i64 f.ak, .int .i64 f.ch, .bool f.ca, .string ⟨f.data.toArray⟩]] W fun e w' => IPC Kp eb W (Ip.take1 d f) S C e w' := by
  unfold Ip.take1
  by_cases k1 : f.kd = 1
  · rw [if_pos k1]
    refine itake_sync h f.kd f.nm f.ak f.ch f.ca _ _ k1 fun W1 h1 f1 => ?_
    exact (itakeSync_o h1 ho hr f.data (by omega)).mono fun e w' hp => ⟨hp.1, IPC.from (IPO.c (show IPO Kp eb W1 _ _ C (.returned (.tuple #[])) w' from ⟨rfl, hp.2⟩)) f1⟩
  rw [if_neg k1]
  by_cases k5 : f.kd = 5
  · rw [if_pos k5]
    refine itake_close h f.kd f.nm f.ak f.ch f.ca _ _ k5 fun W1 h1 f1 => ?_
    exact (itakeClose_o h1 ho hr (by omega)).mono fun e w' hp => ⟨hp.1, IPC.from (IPO.c (show IPO Kp eb W1 _ _ C (.returned (.tuple #[])) w' from ⟨rfl, hp.2⟩)) f1⟩
  · rw [if_neg k5]
    refine itake_other h f.kd f.nm f.ak f.ch f.ca _ _ (by simpa using k1) (by simpa using k5) fun W1 h1 f1 => ?_
    exact (itakeOther_any h1 ho hr f hf hC hlen).mono fun e w' hp => ⟨hp.1, IPC.from (show IPC Kp eb W1 _ S C (.returned (.tuple #[])) w' from ⟨rfl, hp.2⟩) f1⟩
end Go.Proofs.Ytlclfkogbfigbaa

namespace Go.Proofs.Ytlclfkogbfigbaa
open Go.RowKit
theorem ownf_nil (W : World) : fiE.Own W.heap.size (W.alloc (.cells #[] 63)) W.heap.size 0 [] [] := ⟨Rg.Bk.new (C := []) rfl, Nat.le_refl _, Nat.le_refl _, Nat.zero_le _, by simp⟩
/-- append of packets to a row of one's own -/
theorem app_frames {base g cap : Nat} {W : World} {l : List Gp.Fi} {rest : List Value} (h : fiE.Own base W g cap l rest) (l2 : List Gp.Fi) (a : Option Addr) (c : Nat) (hr : ERow fiE W a l2) (hB : base ≤ W.heap.size) (hn : l.length + l2.length ≤ 1000000) :
    ∃ g' cap' rest' W', (Builtin.append_ #[28, 28] 28 #[.slice (some ⟨g, 0, none⟩) l.length cap, .slice a l2.length c]).run Try.prog W = .ok (.slice (some ⟨g', 0, none⟩) (l.length + l2.length) cap') W' ∧ fiE.Own base W' g' cap' (l ++ l2) rest' ∧ Below base W W' := by
  obtain ⟨i0, hi, hz0, hz1, hz2⟩ := infoFi'
  rcases hr with rfl | ⟨b, o, rfl, hb, hat⟩
  · exact ⟨g, cap, rest, W, app_nil Try.underlying28 hi g l.length cap h.le a c W, by rw [List.append_nil]; exact h, Below.refl _ _⟩
  · obtain ⟨g', cap', rest', W', h1, h2, h3, _, _⟩ := h.appendRow (P := Try.prog) l2 28 28 i0 _ 56 Try.underlying28 hi hz0 hz1 hz2 rfl (some ⟨b, o, none⟩) c (.inr ⟨b, o, rfl, hb, hat⟩) hB (by omega) (by unfold maxLen; omega)
    exact ⟨g', cap', rest', W', h1, h2, h3⟩
theorem eqlf_nil (w : World) (a : Option Addr) (n c n' c' : Nat) : (binOp .eql 28 (.slice a n c) (.slice none n' c')).run Try.prog w = .ok (.bool a.isNone) w := Lib.run_eql_slice_nil w _ _ a n c n' c' Try.underlying28
set_option maxHeartbeats 1000000 in
set_option maxRecDepth 100000 in
theorem clonef_nil (n c : Nat) (w : World) : Calls Try.prog 25 #[.slice none n c] w fun e w' => e = .returned (.slice none 0 0) ∧ w' = w := by
  have q := eqlf_nil
  go_enter Try.func25, Try.ntmps25
  go_wp2
  go_ret
  exact ⟨rfl, rfl⟩
set_option maxHeartbeats 1000000 in
set_option maxRecDepth 100000 in
theorem clonef_some (ad : Addr) (n c g cap : Nat) (w W' : World) (hap : Hid ((Builtin.append_ #[28, 28] 28 #[.slice (some ⟨w.heap.size, 0, none⟩) 0 0, .slice (some ad) n c]).run Try.prog (w.alloc (.cells #[] 63)) = .ok (.slice (some ⟨g, 0, none⟩) n cap) W')) :
    Calls Try.prog 25 #[.slice (some ad) n c] w fun e w' => e = .returned (.slice (some ⟨g, 0, none⟩) n cap) ∧ w' = W' := by
  have q := eqlf_nil
  go_enter Try.func25, Try.ntmps25
  go_wp2_with (at_builtin; refine Rg.wpList_append_run rfl _ _ _ rfl _ _ rfl rfl _ _ hap.out ?_)
  go_ret
  exact ⟨rfl, rfl⟩
/-- slices.Clone of packets: nothing, or a row of a block that was not there -/
theorem clonef_any (a : Option Addr) (c : Nat) (l : List Gp.Fi) (w : World) (hl : l.length ≤ 100000) (hr : ERow fiE w a l) :
    Calls Try.prog 25 #[.slice a l.length c] w fun e w' => ∃ a' c', e = .returned (.slice a' l.length c') ∧ Hid ((l = [] ∧ a' = none ∧ c' = 0) ∨ ∃ g, w.heap.size ≤ g ∧ l.length ≤ c' ∧ ∀ eb, eb < w.heap.size → AO w' eb g a' c' l) ∧ Below w.heap.size w w' := by
  cases a with
  | none =>
    have e : l = [] := by
      rcases hr with h | ⟨b, o, h, _⟩
      · exact h
      · cases h
    subst e
    exact (clonef_nil _ c w).mono fun e w' ⟨h1, h2⟩ => ⟨none, 0, h1, .inl ⟨rfl, rfl, rfl⟩, by rw [h2]; exact Below.refl _ _⟩
  | some ad =>
    obtain ⟨g', cap', rest', W', h1, h2, h3⟩ := app_frames (ownf_nil w) l (some ad) c (hr.below (Rg.al1 w _)) (by simp) (by simp; omega)
    rw [List.length_nil, Nat.zero_add] at h1
    rw [List.nil_append] at h2
    refine (clonef_some ad l.length c g' cap' w W' h1).mono fun e w' ⟨e1, e2⟩ => ⟨_, _, e1, .inr ⟨g', h2.new, h2.le, fun eb heb => ?_⟩, ?_⟩
    · rw [e2]
      have hF : FO W' g' 0 cap' l (fiE.flat l ++ rest') := ⟨h2.blk, by have := h2.fit; rw [Nat.zero_add]; exact this, h2.max, h2.le, fun t u ht => by
        rw [Nat.zero_add, List.getElem?_append_left]; (· exact ht)
        rcases Nat.lt_or_ge t (fiE.flat l).length with x | x
        · exact x
        · rw [List.getElem?_eq_none x] at ht; cases ht⟩
      exact hF.ao (Nat.lt_of_lt_of_le heb h2.new)
    · rw [e2]; exact (Rg.al1 w _).trans h3
namespace Ip
open Gp (Dr Pc Fi)
theorem sync_len (d : Dr) : (sync d).length ≤ 20 := by
  unfold sync pk
  rw [If.text_len]
  show 6 + If.bsz 3 ≤ 20
  decide
theorem opens_len (d : Dr) (data : List UInt8) : (opens d data).2.length ≤ 20 := by
  unfold opens
  split
  · split
    · split
      · exact Nat.zero_le _
      · exact Nat.zero_le _
    · split
      · split
        · exact Nat.zero_le _
        · exact sync_len _
      · exact Nat.zero_le _
  · exact Nat.zero_le _
theorem closes_len (d : Dr) : (closes d).2.length ≤ 20 := by
  unfold closes
  split
  · exact Nat.zero_le _
  split
  · dsimp only
    split
    · rw [pk_len]; decide
    · exact Nat.zero_le _
  split
  · exact Nat.zero_le _
  · show (pk d 5 0 0 []).length ≤ 20
    rw [pk_len]; decide
theorem drain_len : ∀ (n : Nat) (d : Dr) (l : List Pc), (drain n d l).2.length ≤ l.length + n
  | 0, _, _ => Nat.le_refl _
  | n + 1, d, l => by
    unfold drain
    split
    · exact Nat.le_add_right _ _
    · rename_i g r _
      split
      · have := drain_len n { d with wants := (d.wants + 1) % 32, ahead := r } (l ++ [⟨g.ch, g.data⟩])
        rw [List.length_append, List.length_singleton] at this
        omega
      · exact Nat.le_add_right _ _
theorem orders_len {d : Dr} (hb : base d) (f : If.Fr) : (orders d f).2.1.length ≤ 20 ∧ (orders d f).2.2.length ≤ 16 := by
  have hl := ok_len (by omega) hb.ah
  unfold orders
  dsimp only
  split
  · refine ⟨by rw [pk_len]; decide, ?_⟩
    have := drain_len d.ahead.length { d with wants := (d.wants + 1) % 32 } [⟨f.ch, ⟨f.data.toArray⟩⟩]
    rw [List.length_singleton] at this
    exact Nat.le_trans this (by omega)
  split
  · split
    · exact ⟨Nat.zero_le _, Nat.zero_le _⟩
    · exact ⟨by rw [pk_len]; decide, Nat.zero_le _⟩
  · exact ⟨by rw [pk_len]; decide, Nat.zero_le _⟩
theorem takes2_len {d : Dr} (h : right d) (f : If.Fr) : (takes2 d f).2.1.length ≤ 4200 ∧ (takes2 d f).2.2.length ≤ 16 := by
  unfold takes2
  split
  · exact ⟨by rw [pk_len]; decide, Nat.zero_le _⟩
  split
  · exact ⟨Nat.zero_le _, Nat.zero_le _⟩
  rename_i h3 h2
  have hp2 : d.phase = 2 := Classical.byContradiction fun x => h2 x
  have hr : runs d := by
    rcases h.2 with ⟨h, _⟩ | ⟨_, h⟩ | h | h | h
    · omega
    · exact h
    all_goals omega
  obtain ⟨ab, ar⟩ := right_acked h.1 hr f.ak
  generalize Gp.acked d f.ak = e at *
  dsimp only
  split
  · split
    · rename_i s hs
      exact ⟨ipacket_len ab.sz.2 (ab.wi s (Wn.find_mem hs)), Nat.zero_le _⟩
    · exact ⟨Nat.zero_le _, Nat.zero_le _⟩
  split
  · have := orders_len ab f
    exact ⟨by omega, this.2⟩
  · exact ⟨Nat.zero_le _, Nat.zero_le _⟩
theorem take1_len {d : Dr} (h : right d) (f : If.Fr) : (take1 d f).2.1.length ≤ 4200 ∧ (take1 d f).2.2.length ≤ 16 := by
  unfold take1
  split
  · have := opens_len d f.data
    exact ⟨by dsimp only; omega, Nat.zero_le _⟩
  split
  · have := closes_len d
    exact ⟨by dsimp only; omega, Nat.zero_le _⟩
  · exact takes2_len h f
theorem takes_len {d : Dr} (h : right d) (f : If.Fr) : (takes d f).2.1.length ≤ 4200 ∧ (takes d f).2.2.length ≤ 16 := by
  rw [takes_1]
  split
  · exact ⟨Nat.zero_le _, Nat.zero_le _⟩
  · exact take1_len (right_wait h (Gp.wait2 h.1.wt.1 h.1.wt.2)) f
end Ip
end Go.Proofs.Ytlclfkogbfigbaa

namespace Go.Proofs.Ytlclfkogbfigbaa
open Go.RowKit
/-- What readBody answers. -/
def If.rb (n : Nat) (r : List UInt8) : List UInt8 × Nat := if r.length < If.bsz n then ([], 2) else if If.body (r.take n) = r.take (If.bsz n) then (r.take n, 0) else ([], 4)
set_option linter.unusedVariables false in
set_option maxHeartbeats 1000000 in
theorem rbody_short (s : ByteArray) (n Z : Nat) (w : World) (d : decide ((s.size : Int) < (Z : Int)) = true) (d' : decide (s.size < Z) = true)
    (HZ : Hid (∀ W, Calls Try.prog 58 #[.int .i64 n] W fun e w' => e = .returned (.int .i64 Z) ∧ w' = W)) :
    Calls Try.prog 57 #[.string s, .int .i64 n] w fun e w' => e = .returned (.tuple #[.string ⟨#[]⟩, .int .i64 2]) ∧ Below w.heap.size w w' := by
  have bw := Below.refl w.heap.size w
  go_enter Try.func57, Try.ntmps57
  go_wp2_with (go_at_call 58; refine (HZ.out _).mono ?_; rintro e w1 ⟨rfl, rfl⟩)
  go_ret2
  exact ⟨rfl, bw⟩
set_option linter.unusedVariables false in
set_option maxHeartbeats 1000000 in
theorem rbody_ok (s : ByteArray) (n Z : Nat) (w : World) (d : decide ((s.size : Int) < (Z : Int)) = false) (h1 : (n : Int) ≤ (s.size : Int)) (h2 : (Z : Int) ≤ (s.size : Int)) (Y : ByteArray) (dq : (Y.toList == (s.extract 0 Z).toList) = true)
    (HZ : Hid (∀ W, Calls Try.prog 58 #[.int .i64 n] W fun e w' => e = .returned (.int .i64 Z) ∧ w' = W))
    (HB : Hid (∀ W, Calls Try.prog 50 #[.string (s.extract 0 n)] W fun e w' => e = .returned (.string Y) ∧ Below W.heap.size W w')) :
    Calls Try.prog 57 #[.string s, .int .i64 n] w fun e w' => e = .returned (.tuple #[.string (s.extract 0 n), .int .i64 0]) ∧ Below w.heap.size w w' := by
  go_enter Try.func57, Try.ntmps57
  go_wp2_with (first
    | (go_at_call 58; refine (HZ.out _).mono ?_; rintro e w1 ⟨rfl, rfl⟩)
    | (go_at_call 50; refine (HB.out _).mono ?_; rintro e w2 ⟨rfl, b2⟩))
  go_ret2
  exact ⟨rfl, b2⟩
set_option linter.unusedVariables false in
set_option maxHeartbeats 1000000 in
theorem rbody_sum (s : ByteArray) (n Z : Nat) (w : World) (d : decide ((s.size : Int) < (Z : Int)) = false) (h1 : (n : Int) ≤ (s.size : Int)) (h2 : (Z : Int) ≤ (s.size : Int)) (Y : ByteArray) (dq : (Y.toList == (s.extract 0 Z).toList) = false)
    (HZ : Hid (∀ W, Calls Try.prog 58 #[.int .i64 n] W fun e w' => e = .returned (.int .i64 Z) ∧ w' = W))
    (HB : Hid (∀ W, Calls Try.prog 50 #[.string (s.extract 0 n)] W fun e w' => e = .returned (.string Y) ∧ Below W.heap.size W w')) :
    Calls Try.prog 57 #[.string s, .int .i64 n] w fun e w' => e = .returned (.tuple #[.string ⟨#[]⟩, .int .i64 4]) ∧ Below w.heap.size w w' := by
  go_enter Try.func57, Try.ntmps57
  go_wp2_with (first
    | (go_at_call 58; refine (HZ.out _).mono ?_; rintro e w1 ⟨rfl, rfl⟩)
    | (go_at_call 50; refine (HB.out _).mono ?_; rintro e w2 ⟨rfl, b2⟩))
  go_ret2
  exact ⟨rfl, b2⟩
theorem rbody_any (s : ByteArray) (n : Nat) (hn : n < 4096) (w : World) :
    Calls Try.prog 57 #[.string s, .int .i64 n] w fun e w' => e = .returned (.tuple #[.string ⟨(If.rb n s.data.toList).1.toArray⟩, .int .i64 ((If.rb n s.data.toList).2 : Nat)]) ∧ Below w.heap.size w w' := by
  have HZ := fun W => bodySize_any n (by omega) W
  have hz := If.bsz_le n
  unfold If.rb
  rw [If.len_eq]
  by_cases hl : s.size < If.bsz n
  · rw [if_pos hl]
    exact rbody_short s n (If.bsz n) w (by simp; omega) (decide_eq_true hl) HZ
  · rw [if_neg hl]
    have e1 := If.extract_eq s 0 n (by omega) (by omega)
    have e2 := If.extract_eq s 0 (If.bsz n) (by omega) (by omega)
    rw [List.drop_zero, Nat.sub_zero] at e1 e2
    have hsz := If.extract_size s 0 n (by omega) (by omega)
    have HB := fun W => body_any (s.extract 0 n) (by omega) W
    rw [← e1, ← e2]
    by_cases hq : If.body (s.extract 0 n).data.toList = (s.extract 0 (If.bsz n)).data.toList
    · rw [if_pos hq]
      exact rbody_ok s n (If.bsz n) w (by simp; omega) (by omega) (by omega) _ (by rw [tl_eq, tl_eq]; exact beq_iff_eq.2 hq) HZ HB
    · rw [if_neg hq]
      exact rbody_sum s n (If.bsz n) w (by simp; omega) (by omega) (by omega) _ (by rw [tl_eq, tl_eq]; exact beq_eq_false_iff_ne.2 hq) HZ HB

set_option linter.unusedVariables false in
set_option maxHeartbeats 2000000 in
set_option maxRecDepth 100000 in
theorem rhead_core (s : ByteArray) (w : World) (h6 : 6 ≤ s.size) (K N A C M Z1 Z : Nat) (B : Bool) (hml : s.size ≤ 9223372036854775807)
    (j1 : (1 : Int) < (s.size : Int)) (j2 : (2 : Int) < (s.size : Int)) (j3 : (3 : Int) < (s.size : Int)) (j4 : (4 : Int) < (s.size : Int))
    (b1 : s[1].toNat < 256) (b2 : s[2].toNat < 256) (b3 : s[3].toNat < 256) (b4 : s[4].toNat < 256)
    (f1 : (s[3].toNat : Int) / 32 = (K : Int)) (f2 : (s[1].toNat : Int) / 8 = (N : Int)) (f3 : (s[2].toNat : Int) / 8 = (A : Int)) (f4 : bits .and .i64 (s[1].toNat : Int) 7 = (C : Int))
    (f5 : bits .and .i64 (s[3].toNat : Int) 16 = (M : Int)) (f6 : ((M : Int) != 0) = B)
    (f7 : bits .and .i64 (s[3].toNat : Int) 15 = (Z1 : Int)) (hZ1 : Z1 < 16) (f8 : bits .or .i64 ((Z1 : Int) * 256) (s[4].toNat : Int) = (Z : Int)) :
    Calls Try.prog 56 #[.string s] w fun e w' => e = .returned (.tuple #[.agg #[.int .i64 K, .int .i64 N, .int .i64 A, .int .i64 C, .bool B, .string ⟨#[]⟩], .int .i64 Z]) ∧ Below w.heap.size w w' := by
  go_enter Try.func56, Try.ntmps56
  go_upto_region 1 with fail
  go_big_region
  go_upto_region 3 with fail
  go_big_region
  go_wp2
  exact bodyPost_ret (v := .tuple #[.agg #[.int .i64 K, .int .i64 N, .int .i64 A, .int .i64 C, .bool B, .string ⟨#[]⟩], .int .i64 Z]) (by simp [results, Try.results56, go_sem]) rfl ⟨rfl, (If.more (If.below1 w _) _).drew.drew⟩
namespace If
theorem and7 (x : Nat) : bits .and .i64 (x : Int) 7 = ((x % 8 : Nat) : Int) := by
  rw [show (7 : Int) = ((7 : Nat) : Int) from rfl, Bit.and_i64_mask (x : Int) 3 7 (by decide) (by decide)]; omega
theorem and15 (x : Nat) : bits .and .i64 (x : Int) 15 = ((x % 16 : Nat) : Int) := by
  rw [show (15 : Int) = ((15 : Nat) : Int) from rfl, Bit.and_i64_mask (x : Int) 4 15 (by decide) (by decide)]; omega
theorem and16_all : ∀ n : Nat, n < 256 → bits .and .i64 (n : Int) 16 = ((n / 16 % 2 * 16 : Nat) : Int) := by decide +kernel
theorem or256 {z d : Nat} (hz : z < 16) (hd : d < 256) : bits .or .i64 ((z : Int) * 256) (d : Int) = ((z * 256 + d : Nat) : Int) := by
  have e := Bit.or_i64 (z * 256) d (by omega) (by omega)
  rw [show z * 256 ||| d = z * 256 + d from or_add z 8 d (by omega)] at e
  rw [← e]; rfl
end If
theorem rhead_any (s : ByteArray) (h6 : 6 ≤ s.size) (hs : s.size ≤ maxLen) (w : World) :
    Calls Try.prog 56 #[.string s] w fun e w' => e = .returned (.tuple #[.agg #[.int .i64 (s[3].toNat / 32 : Nat), .int .i64 (s[1].toNat / 8 : Nat), .int .i64 (s[2].toNat / 8 : Nat), .int .i64 (s[1].toNat % 8 : Nat), .bool (decide (s[3].toNat / 16 % 2 = 1)), .string ⟨#[]⟩], .int .i64 (s[3].toNat % 16 * 256 + s[4].toNat : Nat)]) ∧ Below w.heap.size w w' := by
  have b1 := UInt8.toNat_lt s[1]
  have b2 := UInt8.toNat_lt s[2]
  have b3 := UInt8.toNat_lt s[3]
  have b4 := UInt8.toNat_lt s[4]
  refine rhead_core s w h6 (s[3].toNat / 32) (s[1].toNat / 8) (s[2].toNat / 8) (s[1].toNat % 8) (s[3].toNat / 16 % 2 * 16) (s[3].toNat % 16) _ (decide (s[3].toNat / 16 % 2 = 1)) hs (by omega) (by omega) (by omega) (by omega) b1 b2 b3 b4 (by omega) (by omega) (by omega) (If.and7 _) (If.and16_all _ b3) ?_ (If.and15 _) (by omega) (If.or256 (by omega) b4)
  generalize s[3].toNat / 16 = q
  rcases Nat.mod_two_eq_zero_or_one q with h | h
  · rw [h]; rfl
  · rw [h]; rfl
end Go.Proofs.Ytlclfkogbfigbaa
