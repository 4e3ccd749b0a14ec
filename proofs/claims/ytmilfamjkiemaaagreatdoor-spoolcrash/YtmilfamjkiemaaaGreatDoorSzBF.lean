/-
  Layer 18: leave, Done, Fail of the program.
-/
import Derived.Test.YtmilfamjkiemaaaGreatDoorSzAS
import Derived.Test.YtmilfamjkiemaaaGreatDoorSzBD
namespace Go.Proofs.YtmilfamjkiemaaaGreatDoor
open Go.RowKit
set_option maxHeartbeats 2000000 in
set_option maxRecDepth 100000 in
theorem leave_core (s : ByteArray) (g n : Int) (CS : Array Value) (d d1 d2 : Dsk.Dk) (E1 E2 : Int) (F : ByteArray) (w : World) (hd : DAt w (.agg CS) d)
    (HF : Hid (∀ W, Below w.heap.size w W → Calls Tryz.prog 36 #[.int .i64 68, .string s, .agg #[.int .i64 g, .int .i64 n]] W fun e w' => e = .returned (.string F) ∧ Below W.heap.size W w'))
    (HR : Hid (∀ W CS, Below w.heap.size w W → DAt W (.agg CS) d → Calls Tryz.prog 35 #[.agg CS, .string F] W fun e w' => V2Post W (d1, E1) e w'))
    (HS : Hid (∀ W CS, Below w.heap.size w W → DAt W (.agg CS) d1 → Calls Tryz.prog 71 #[.agg CS] W fun e w' => V2Post W (d2, E2) e w'))
    (r : Dsk.Dk × Int) (hr : r = if E1 ≠ 0 ∧ E1 ≠ 6 then (d1, E1) else (d2, E2)) :
    Calls Tryz.prog 37 #[.agg CS, .string s, .agg #[.int .i64 g, .int .i64 n]] w fun e w' => V2Post w r e w' := by
  obtain ⟨kB, kI, kR, hb⟩ := boxD3 w CS d hd [.int .i64 g, .int .i64 n] 31
  clear hd
  have hr' := Rg.hid hr
  clear hr
  go_enter Tryz.func37, Tryz.ntmps37
  go_upto_region 1 with fail
  generalize World.alloc _ _ = w1 at *
  obtain ⟨B, hB⟩ : ∃ B, B = w.heap.size := ⟨_, rfl⟩
  obtain ⟨I, hI⟩ : ∃ I, I = w.heap.size + 1 := ⟨_, rfl⟩
  obtain ⟨R, hR⟩ : ∃ R, R = w.heap.size + 2 := ⟨_, rfl⟩
  rw [← hR] at kR ⊢
  rw [← hI] at kI ⊢
  rw [← hB] at kB ⊢
  have hBw : Hid (w.heap.size ≤ B) := by show _ ≤ _; omega
  have nBI : B ≠ I := by omega
  have nBR : B ≠ R := by omega
  have hIw : Hid (w.heap.size ≤ I) := by show _ ≤ _; omega
  have nIR : I ≠ R := by omega
  have hRw : Hid (w.heap.size ≤ R) := by show _ ≤ _; omega
  clear hB hI hR
  refine Rg.beginL (fun (w' : World) => DB B CS d w' ∧ Rg.Bk I [.int .i64 g, .int .i64 n] 31 w') [7, 8, 9] (by kernel_rfl) ?_ (fun hH0 => ?_)
  · exact ⟨kB.out.drew, kI.out.drew⟩
  refine Rg.tlv 0 (some 10) (.agg CS) (fun w hSw => Rg.xload _ _ rfl rfl (hSw.1.ld)) ?_
  refine Rg.tlq 1 (some 11) ?_
  refine Rg.tlv 2 (some 12) (.agg #[.int .i64 g, .int .i64 n]) (fun w hSw => Rg.xload _ _ rfl rfl (idld hSw.2)) ?_
  refine Rg.AnyL.one 3 (o := { dst := some 13, op := _, type := _, pos := _, after := _, guard := _ }) (by decide) (fun K hK => ?_)
  go_simp; go_at_call 36; refine (HF.out _ hb.out.drew).mono ?_; rintro e w2 ⟨rfl, b2⟩; have kB2 := Rg.hid (kB.out.drew.below b2); have kI2 := Rg.hid (kI.out.drew.below b2 kI.out.lt); have kR2 := Rg.hid (kR.out.drew.below b2); have hb2 := Rg.hid (Rg.chain hb.out.drew b2)
  refine hK.out _ _ ?_ (fun hH1 => ?_)
  · exact ⟨kB2.out, kI2.out⟩
  clear hK K hH0
  clear kB kI kR hb b2
  refine Rg.AnyL.one 4 (o := { dst := some 14, op := _, type := _, pos := _, after := _, guard := _ }) (by decide) (fun K hK => ?_)
  go_simp; go_at_call 35; refine (HR.out _ _ hb2.out kB2.out.dt).mono ?_; rintro e w3 ⟨CS1, rfl, a3, b3⟩; have kB3 := Rg.hid (kB2.out.below b3.out); have kI3 := Rg.hid (kI2.out.below b3.out kI2.out.lt); have kR3 := Rg.hid (kR2.out.below b3.out); have hb3 := Rg.hid (Rg.chain hb2.out b3.out); obtain ⟨w4, st4, k4, o4⟩ := kB3.out.st a3.out
  refine hK.out _ _ ?_ (fun hH2 => ?_)
  · exact ⟨kB3.out, kI3.out⟩
  clear hK K hH1
  clear kB2 kI2 kR2 hb2 b3
  refine Rg.tlq 5 (some 9) ?_
  refine Rg.tlp 7 (some 16) ?_
  refine Rg.tlq 6 (some 15) ?_
  refine Rg.AnyL.last 8 (o := { dst := none, op := _, type := _, pos := _, after := _, guard := _ }) (by decide) (fun K hK => ?_)
  refine Rg.xstore rfl _ _ _ rfl rfl rfl st4 ?_
  refine hK.out _ _ ?_
  clear hK K hH2
  refine Rg.tlp 9 (some 8) ?_
  refine Rg.AnyL.done ?_
  have kB4 := Rg.hid k4
  have kR4 := Rg.hid (kR3.out.only kB3.out nBR.symm o4)
  have hb4 := Rg.hid (hb3.out.trans (o4.bel hBw.out))
  have hl4 := Rg.hid k4.ld
  clear k4 o4 st4 a3 kB3 kR3 kI3 hb3
  dsimp only at kB4
  rcases (show (E1 = 0 ∨ E1 = 6) ∨ (¬ E1 = 0 ∧ ¬ E1 = 6) by omega) with (rfl | rfl) | ⟨h0, h6⟩
  rotate_left 2
  · have hrr : Hid (r = (d1, E1)) := by show _ = _; rw [hr'.out, if_pos ⟨h0, h6⟩]
    have e0 : (E1 != 0) = true := by rw [bne_iff_ne]; exact h0
    have e6 : (E1 != 6) = true := by rw [bne_iff_ne]; exact h6
    obtain ⟨w5, st5, k5, o5⟩ := kR4.out.st kB4.out.dt
    clear hr'
    go_wp2_with (first | (with_reducible refine Rg.isld (.tmp 3) 28 ?_; refine Rg.lld (.tmp 3) 28 rfl hl4.out ?_) | (with_reducible refine Rg.isst (.tmp 6) (.tmp 23) 28 ?_; refine Rg.lst (.tmp 6) (.tmp 23) 28 rfl rfl st5 ?_))
    exact bodyPost_ret (v := .tuple #[.agg CS1, .int .i64 E1]) (Rg.res2 rfl rfl rfl k5.ld) rfl (show V2Post w r _ w5 by rw [hrr.out]; exact ⟨CS1, rfl, k5.dt, hb4.out.trans (o5.bel hRw.out)⟩)
  all_goals
    have hrr : Hid (r = (d2, E2)) := by show _ = _; rw [hr'.out, if_neg (by simp)]
    clear hr'
    go_wp2_with (first | (with_reducible refine Rg.isld (.tmp 3) 28 ?_; refine Rg.lld (.tmp 3) 28 rfl hl4.out ?_) | (go_at_call 71; refine (HS.out _ _ hb4.out kB4.out.dt).mono ?_; rintro e w5 ⟨CS2, rfl, a5, b5⟩; obtain ⟨w6, st6, k6, o6⟩ := (kR4.out.below b5.out).st a5.out) | (with_reducible refine Rg.isst (.tmp 6) (.tmp 27) 28 ?_; refine Rg.lst (.tmp 6) (.tmp 27) 28 rfl rfl st6 ?_))
    exact bodyPost_ret (v := .tuple #[.agg CS2, .int .i64 E2]) (Rg.res2 rfl rfl rfl k6.ld) rfl (show V2Post w r _ w6 by rw [hrr.out]; exact ⟨CS2, rfl, k6.dt, (Rg.chain hb4.out b5.out).trans (o6.bel hRw.out)⟩)
set_option maxHeartbeats 2000000 in
set_option maxRecDepth 100000 in
theorem done_core (s : ByteArray) (g n : Int) (CS : Array Value) (d d1 d2 : Dsk.Dk) (h : Spl.Hd) (E0 E1 E2 : Int) (F : ByteArray) (w : World) (hd : DAt w (.agg CS) d)
    (HL : Hid (∀ W CS, Below w.heap.size w W → DAt W (.agg CS) d → Calls Tryz.prog 16 #[.agg CS, .string s, .agg #[.int .i64 g, .int .i64 n]] W fun e w' => e = .returned (.tuple #[.agg (hc h).toArray, .int .i64 E0]) ∧ Below W.heap.size W w'))
    (HF : Hid (∀ W, Below w.heap.size w W → Calls Tryz.prog 36 #[.int .i64 67, .string s, .agg #[.int .i64 g, .int .i64 n]] W fun e w' => e = .returned (.string F) ∧ Below W.heap.size W w'))
    (HR : Hid (∀ W CS, Below w.heap.size w W → DAt W (.agg CS) d → Calls Tryz.prog 35 #[.agg CS, .string F] W fun e w' => V2Post W (d1, E1) e w'))
    (HV : Hid (∀ W CS, Below w.heap.size w W → DAt W (.agg CS) d1 → Calls Tryz.prog 37 #[.agg CS, .string s, .agg #[.int .i64 g, .int .i64 n]] W fun e w' => V2Post W (d2, E2) e w'))
    (r : Dsk.Dk × Int) (hr : r = if E0 ≠ 0 then (d, E0) else if E1 ≠ 0 then (d1, E1) else (d2, E2)) :
    Calls Tryz.prog 12 #[.agg CS, .string s, .agg #[.int .i64 g, .int .i64 n]] w fun e w' => V2Post w r e w' := by
  obtain ⟨kB, kI, kR, hb⟩ := boxD3 w CS d hd [.int .i64 g, .int .i64 n] 31
  obtain ⟨ys, ⟨yg, yn, yk, yu, yf, yt, yc, yz⟩, yx⟩ := h
  unfold hc at HL
  dsimp only at HL
  clear hd
  have hr' := Rg.hid hr
  clear hr
  go_enter Tryz.func12, Tryz.ntmps12
  go_upto_region 1 with fail
  generalize World.alloc _ _ = w1 at *
  obtain ⟨B, hB⟩ : ∃ B, B = w.heap.size := ⟨_, rfl⟩
  obtain ⟨I, hI⟩ : ∃ I, I = w.heap.size + 1 := ⟨_, rfl⟩
  obtain ⟨R, hR⟩ : ∃ R, R = w.heap.size + 2 := ⟨_, rfl⟩
  rw [← hR] at kR ⊢
  rw [← hI] at kI ⊢
  rw [← hB] at kB ⊢
  have hBw : Hid (w.heap.size ≤ B) := by show _ ≤ _; omega
  have nBI : B ≠ I := by omega
  have nBR : B ≠ R := by omega
  have hIw : Hid (w.heap.size ≤ I) := by show _ ≤ _; omega
  have nIR : I ≠ R := by omega
  have hRw : Hid (w.heap.size ≤ R) := by show _ ≤ _; omega
  clear hB hI hR
  have hl1 := Rg.hid kB.out.ld
  have i0 : w1.cell? ⟨I, 0, none⟩ = some (.int .i64 g) := kI.out.cell 0
  have i1 : w1.cell? ⟨I, 1, none⟩ = some (.int .i64 n) := kI.out.cell 1
  go_upto_region 2 with (first | (with_reducible refine Rg.isld (.tmp 3) 28 ?_; refine Rg.lld (.tmp 3) 28 rfl hl1.out ?_) | (go_at_call 16; refine (HL.out _ _ hb.out kB.out.dt).mono ?_; rintro e w2 ⟨rfl, b2⟩))
  have bA := Rg.al1 w2 (.cells #[.string ys, .int .i64 yg, .int .i64 yn, .int .i64 yk, .string yu, .string yf, .string yt, .string yc, .int .i64 yz, .string yx] 42)
  generalize World.alloc _ _ = w3 at *
  have kB3 := Rg.hid ((kB.out.below b2).below bA)
  have kI3 := Rg.hid ((kI.out.below b2 kI.out.lt).below bA (Nat.lt_of_lt_of_le kI.out.lt b2.size))
  have kR3 := Rg.hid ((kR.out.below b2).below bA)
  have hb3 := Rg.hid (Rg.chain (Rg.chain hb.out b2) bA)
  clear kB kI kR hb b2 bA hl1 i0 i1 HL
  by_cases h0 : E0 = 0
  rotate_left
  · have e0 : (E0 != 0) = true := by rw [bne_iff_ne]; exact h0
    have hrr : Hid (r = (d, E0)) := by show _ = _; rw [hr'.out, if_pos h0]
    have hl3 := Rg.hid kB3.out.ld
    obtain ⟨w5, st5, k5, o5⟩ := kR3.out.st kB3.out.dt
    clear hr'
    go_wp2_with (first | (with_reducible refine Rg.isld (.tmp 3) 28 ?_; refine Rg.lld (.tmp 3) 28 rfl hl3.out ?_) | (with_reducible refine Rg.isst (.tmp 6) (.tmp 20) 28 ?_; refine Rg.lst (.tmp 6) (.tmp 20) 28 rfl rfl st5 ?_))
    exact bodyPost_ret (v := .tuple #[.agg CS, .int .i64 E0]) (Rg.res2 rfl rfl rfl k5.ld) rfl (show V2Post w r _ w5 by rw [hrr.out]; exact ⟨CS, rfl, k5.dt, hb3.out.trans (o5.bel hRw.out)⟩)
  subst h0
  go_upto_region 4 with fail
  refine Rg.beginL (fun (w' : World) => DB B CS d w' ∧ Rg.Bk I [.int .i64 g, .int .i64 n] 31 w') [7, 8, 9] (by kernel_rfl) ?_ (fun hH0 => ?_)
  · exact ⟨kB3.out.drew, kI3.out.drew⟩
  refine Rg.tlv 0 (some 23) (.agg CS) (fun w hSw => Rg.xload _ _ rfl rfl (hSw.1.ld)) ?_
  refine Rg.tlq 1 (some 24) ?_
  refine Rg.tlv 2 (some 25) (.agg #[.int .i64 g, .int .i64 n]) (fun w hSw => Rg.xload _ _ rfl rfl (idld hSw.2)) ?_
  refine Rg.AnyL.one 3 (o := { dst := some 26, op := _, type := _, pos := _, after := _, guard := _ }) (by decide) (fun K hK => ?_)
  go_simp; go_at_call 36; refine (HF.out _ hb3.out.drew).mono ?_; rintro e w4 ⟨rfl, b4⟩; have kB4 := Rg.hid (kB3.out.drew.below b4); have kI4 := Rg.hid (kI3.out.drew.below b4 kI3.out.lt); have kR4 := Rg.hid (kR3.out.drew.below b4); have hb4 := Rg.hid (Rg.chain hb3.out.drew b4)
  refine hK.out _ _ ?_ (fun hH1 => ?_)
  · exact ⟨kB4.out, kI4.out⟩
  clear hK K hH0
  clear kB3 kI3 kR3 hb3 b4
  refine Rg.AnyL.one 4 (o := { dst := some 27, op := _, type := _, pos := _, after := _, guard := _ }) (by decide) (fun K hK => ?_)
  go_simp; go_at_call 35; refine (HR.out _ _ hb4.out kB4.out.dt).mono ?_; rintro e w6 ⟨CS1, rfl, a6, b6⟩; have kB6 := Rg.hid (kB4.out.below b6.out); have kI6 := Rg.hid (kI4.out.below b6.out kI4.out.lt); have kR6 := Rg.hid (kR4.out.below b6.out); have hb6 := Rg.hid (Rg.chain hb4.out b6.out); obtain ⟨w7, st7, k7, o7⟩ := kB6.out.st a6.out
  refine hK.out _ _ ?_ (fun hH3 => ?_)
  · exact ⟨kB6.out, kI6.out⟩
  clear hK K hH1
  clear kB4 kI4 kR4 hb4 b6
  refine Rg.tlq 5 (some 22) ?_
  refine Rg.tlp 7 (some 29) ?_
  refine Rg.tlq 6 (some 28) ?_
  refine Rg.AnyL.last 8 (o := { dst := none, op := _, type := _, pos := _, after := _, guard := _ }) (by decide) (fun K hK => ?_)
  refine Rg.xstore rfl _ _ _ rfl rfl rfl st7 ?_
  refine hK.out _ _ ?_
  clear hK K hH3
  refine Rg.tlp 9 (some 10) ?_
  refine Rg.AnyL.done ?_
  have kB8 := Rg.hid k7
  have kI8 := Rg.hid (kI6.out.same (o7.block I nBI.symm))
  have kR8 := Rg.hid (kR6.out.only kB6.out nBR.symm o7)
  have hb8 := Rg.hid (hb6.out.trans (o7.bel hBw.out))
  have hl8 := Rg.hid k7.ld
  clear k7 o7 st7 a6 kB6 kR6 kI6 hb6
  dsimp only at kB8
  by_cases h1 : E1 = 0
  rotate_left
  · have e0 : (E1 != 0) = true := by rw [bne_iff_ne]; exact h1
    have hrr : Hid (r = (d1, E1)) := by show _ = _; rw [hr'.out, if_neg (by simp), if_pos h1]
    obtain ⟨w9, st9, k9, o9⟩ := kR8.out.st kB8.out.dt
    clear hr'
    go_wp2_with (first | (with_reducible refine Rg.isld (.tmp 3) 28 ?_; refine Rg.lld (.tmp 3) 28 rfl hl8.out ?_) | (with_reducible refine Rg.isst (.tmp 6) (.tmp 32) 28 ?_; refine Rg.lst (.tmp 6) (.tmp 32) 28 rfl rfl st9 ?_))
    exact bodyPost_ret (v := .tuple #[.agg CS1, .int .i64 E1]) (Rg.res2 rfl rfl rfl k9.ld) rfl (show V2Post w r _ w9 by rw [hrr.out]; exact ⟨CS1, rfl, k9.dt, hb8.out.trans (o9.bel hRw.out)⟩)
  · subst h1
    have hrr : Hid (r = (d2, E2)) := by show _ = _; rw [hr'.out, if_neg (by simp), if_neg (by simp)]
    have i0 : w7.cell? ⟨I, 0, none⟩ = some (.int .i64 g) := kI8.out.cell 0
    have i1 : w7.cell? ⟨I, 1, none⟩ = some (.int .i64 n) := kI8.out.cell 1
    clear hr'
    go_wp2_with (first | (with_reducible refine Rg.isld (.tmp 3) 28 ?_; refine Rg.lld (.tmp 3) 28 rfl hl8.out ?_) | (go_at_call 37; refine (HV.out _ _ hb8.out kB8.out.dt).mono ?_; rintro e w9 ⟨CS2, rfl, a9, b9⟩; obtain ⟨wA, stA, kA, oA⟩ := (kR8.out.below b9.out).st a9.out) | (with_reducible refine Rg.isst (.tmp 6) (.tmp 38) 28 ?_; refine Rg.lst (.tmp 6) (.tmp 38) 28 rfl rfl stA ?_))
    exact bodyPost_ret (v := .tuple #[.agg CS2, .int .i64 E2]) (Rg.res2 rfl rfl rfl kA.ld) rfl (show V2Post w r _ wA by rw [hrr.out]; exact ⟨CS2, rfl, kA.dt, (Rg.chain hb8.out b9.out).trans (oA.bel hRw.out)⟩)
set_option maxHeartbeats 2000000 in
set_option maxRecDepth 100000 in
theorem fail_core (s : ByteArray) (g n : Int) (CS : Array Value) (d d1 d2 : Dsk.Dk) (h : Spl.Hd) (E0 E1 E2 : Int) (F F2 : ByteArray) (w : World) (hd : DAt w (.agg CS) d)
    (HL : Hid (∀ W CS, Below w.heap.size w W → DAt W (.agg CS) d → Calls Tryz.prog 16 #[.agg CS, .string s, .agg #[.int .i64 g, .int .i64 n]] W fun e w' => e = .returned (.tuple #[.agg (hc h).toArray, .int .i64 E0]) ∧ Below W.heap.size W w'))
    (HF : Hid (∀ W, Below w.heap.size w W → Calls Tryz.prog 36 #[.int .i64 67, .string s, .agg #[.int .i64 g, .int .i64 n]] W fun e w' => e = .returned (.string F) ∧ Below W.heap.size W w'))
    (HF2 : Hid (∀ W, Below w.heap.size w W → Calls Tryz.prog 36 #[.int .i64 69, .string s, .agg #[.int .i64 g, .int .i64 n]] W fun e w' => e = .returned (.string F2) ∧ Below W.heap.size W w'))
    (HR : Hid (∀ W CS, Below w.heap.size w W → DAt W (.agg CS) d → Calls Tryz.prog 41 #[.agg CS, .string F, .string F2] W fun e w' => V2Post W (d1, E1) e w'))
    (HV : Hid (∀ W CS, Below w.heap.size w W → DAt W (.agg CS) d1 → Calls Tryz.prog 37 #[.agg CS, .string s, .agg #[.int .i64 g, .int .i64 n]] W fun e w' => V2Post W (d2, E2) e w'))
    (r : Dsk.Dk × Int) (hr : r = if E0 ≠ 0 then (d, E0) else if E1 ≠ 0 then (d1, E1) else (d2, E2)) :
    Calls Tryz.prog 14 #[.agg CS, .string s, .agg #[.int .i64 g, .int .i64 n]] w fun e w' => V2Post w r e w' := by
  obtain ⟨kB, kI, kR, hb⟩ := boxD3 w CS d hd [.int .i64 g, .int .i64 n] 31
  obtain ⟨ys, ⟨yg, yn, yk, yu, yf, yt, yc, yz⟩, yx⟩ := h
  unfold hc at HL
  dsimp only at HL
  clear hd
  have hr' := Rg.hid hr
  clear hr
  go_enter Tryz.func14, Tryz.ntmps14
  go_upto_region 1 with fail
  generalize World.alloc _ _ = w1 at *
  obtain ⟨B, hB⟩ : ∃ B, B = w.heap.size := ⟨_, rfl⟩
  obtain ⟨I, hI⟩ : ∃ I, I = w.heap.size + 1 := ⟨_, rfl⟩
  obtain ⟨R, hR⟩ : ∃ R, R = w.heap.size + 2 := ⟨_, rfl⟩
  rw [← hR] at kR ⊢
  rw [← hI] at kI ⊢
  rw [← hB] at kB ⊢
  have hBw : Hid (w.heap.size ≤ B) := by show _ ≤ _; omega
  have nBI : B ≠ I := by omega
  have nBR : B ≠ R := by omega
  have hIw : Hid (w.heap.size ≤ I) := by show _ ≤ _; omega
  have nIR : I ≠ R := by omega
  have hRw : Hid (w.heap.size ≤ R) := by show _ ≤ _; omega
  clear hB hI hR
  have hl1 := Rg.hid kB.out.ld
  have i0 : w1.cell? ⟨I, 0, none⟩ = some (.int .i64 g) := kI.out.cell 0
  have i1 : w1.cell? ⟨I, 1, none⟩ = some (.int .i64 n) := kI.out.cell 1
  go_upto_region 2 with (first | (with_reducible refine Rg.isld (.tmp 3) 28 ?_; refine Rg.lld (.tmp 3) 28 rfl hl1.out ?_) | (go_at_call 16; refine (HL.out _ _ hb.out kB.out.dt).mono ?_; rintro e w2 ⟨rfl, b2⟩))
  have bA := Rg.al1 w2 (.cells #[.string ys, .int .i64 yg, .int .i64 yn, .int .i64 yk, .string yu, .string yf, .string yt, .string yc, .int .i64 yz, .string yx] 42)
  generalize World.alloc _ _ = w3 at *
  have kB3 := Rg.hid ((kB.out.below b2).below bA)
  have kI3 := Rg.hid ((kI.out.below b2 kI.out.lt).below bA (Nat.lt_of_lt_of_le kI.out.lt b2.size))
  have kR3 := Rg.hid ((kR.out.below b2).below bA)
  have hb3 := Rg.hid (Rg.chain (Rg.chain hb.out b2) bA)
  clear kB kI kR hb b2 bA hl1 i0 i1 HL
  by_cases h0 : E0 = 0
  rotate_left
  · have e0 : (E0 != 0) = true := by rw [bne_iff_ne]; exact h0
    have hrr : Hid (r = (d, E0)) := by show _ = _; rw [hr'.out, if_pos h0]
    have hl3 := Rg.hid kB3.out.ld
    obtain ⟨w5, st5, k5, o5⟩ := kR3.out.st kB3.out.dt
    clear hr'
    go_wp2_with (first | (with_reducible refine Rg.isld (.tmp 3) 28 ?_; refine Rg.lld (.tmp 3) 28 rfl hl3.out ?_) | (with_reducible refine Rg.isst (.tmp 6) (.tmp 20) 28 ?_; refine Rg.lst (.tmp 6) (.tmp 20) 28 rfl rfl st5 ?_))
    exact bodyPost_ret (v := .tuple #[.agg CS, .int .i64 E0]) (Rg.res2 rfl rfl rfl k5.ld) rfl (show V2Post w r _ w5 by rw [hrr.out]; exact ⟨CS, rfl, k5.dt, hb3.out.trans (o5.bel hRw.out)⟩)
  subst h0
  go_upto_region 4 with fail
  refine Rg.beginL (fun (w' : World) => DB B CS d w' ∧ Rg.Bk I [.int .i64 g, .int .i64 n] 31 w') [10, 11, 12] (by kernel_rfl) ?_ (fun hH0 => ?_)
  · exact ⟨kB3.out.drew, kI3.out.drew⟩
  refine Rg.tlv 0 (some 23) (.agg CS) (fun w hSw => Rg.xload _ _ rfl rfl (hSw.1.ld)) ?_
  refine Rg.tlq 1 (some 24) ?_
  refine Rg.tlv 2 (some 25) (.agg #[.int .i64 g, .int .i64 n]) (fun w hSw => Rg.xload _ _ rfl rfl (idld hSw.2)) ?_
  refine Rg.tlq 4 (some 27) ?_
  refine Rg.tlv 5 (some 28) (.agg #[.int .i64 g, .int .i64 n]) (fun w hSw => Rg.xload _ _ rfl rfl (idld hSw.2)) ?_
  refine Rg.AnyL.one 3 (o := { dst := some 26, op := _, type := _, pos := _, after := _, guard := _ }) (by decide) (fun K hK => ?_)
  go_simp; go_at_call 36; refine (HF.out _ hb3.out.drew).mono ?_; rintro e w4 ⟨rfl, b4⟩; have kB4 := Rg.hid (kB3.out.drew.below b4); have kI4 := Rg.hid (kI3.out.drew.below b4 kI3.out.lt); have kR4 := Rg.hid (kR3.out.drew.below b4); have hb4 := Rg.hid (Rg.chain hb3.out.drew b4)
  refine hK.out _ _ ?_ (fun hH1 => ?_)
  · exact ⟨kB4.out, kI4.out⟩
  clear hK K hH0
  clear kB3 kI3 kR3 hb3 b4
  refine Rg.AnyL.one 6 (o := { dst := some 29, op := _, type := _, pos := _, after := _, guard := _ }) (by decide) (fun K hK => ?_)
  go_simp; go_at_call 36; refine (HF2.out _ hb4.out).mono ?_; rintro e w5 ⟨rfl, b5⟩; have kB5 := Rg.hid (kB4.out.below b5); have kI5 := Rg.hid (kI4.out.below b5 kI4.out.lt); have kR5 := Rg.hid (kR4.out.below b5); have hb5 := Rg.hid (Rg.chain hb4.out b5)
  refine hK.out _ _ ?_ (fun hH2 => ?_)
  · exact ⟨kB5.out, kI5.out⟩
  clear hK K hH1
  clear kB4 kI4 kR4 hb4 b5
  refine Rg.AnyL.one 7 (o := { dst := some 30, op := _, type := _, pos := _, after := _, guard := _ }) (by decide) (fun K hK => ?_)
  go_simp; go_at_call 41; refine (HR.out _ _ hb5.out kB5.out.dt).mono ?_; rintro e w6 ⟨CS1, rfl, a6, b6⟩; have kB6 := Rg.hid (kB5.out.below b6.out); have kI6 := Rg.hid (kI5.out.below b6.out kI5.out.lt); have kR6 := Rg.hid (kR5.out.below b6.out); have hb6 := Rg.hid (Rg.chain hb5.out b6.out); obtain ⟨w7, st7, k7, o7⟩ := kB6.out.st a6.out
  refine hK.out _ _ ?_ (fun hH3 => ?_)
  · exact ⟨kB6.out, kI6.out⟩
  clear hK K hH2
  clear kB5 kI5 kR5 hb5 b6
  refine Rg.tlq 8 (some 22) ?_
  refine Rg.tlp 10 (some 32) ?_
  refine Rg.tlq 9 (some 31) ?_
  refine Rg.AnyL.last 11 (o := { dst := none, op := _, type := _, pos := _, after := _, guard := _ }) (by decide) (fun K hK => ?_)
  refine Rg.xstore rfl _ _ _ rfl rfl rfl st7 ?_
  refine hK.out _ _ ?_
  clear hK K hH3
  refine Rg.tlp 12 (some 10) ?_
  refine Rg.AnyL.done ?_
  have kB8 := Rg.hid k7
  have kI8 := Rg.hid (kI6.out.same (o7.block I nBI.symm))
  have kR8 := Rg.hid (kR6.out.only kB6.out nBR.symm o7)
  have hb8 := Rg.hid (hb6.out.trans (o7.bel hBw.out))
  have hl8 := Rg.hid k7.ld
  clear k7 o7 st7 a6 kB6 kR6 kI6 hb6
  dsimp only at kB8
  by_cases h1 : E1 = 0
  rotate_left
  · have e0 : (E1 != 0) = true := by rw [bne_iff_ne]; exact h1
    have hrr : Hid (r = (d1, E1)) := by show _ = _; rw [hr'.out, if_neg (by simp), if_pos h1]
    obtain ⟨w9, st9, k9, o9⟩ := kR8.out.st kB8.out.dt
    clear hr'
    go_wp2_with (first | (with_reducible refine Rg.isld (.tmp 3) 28 ?_; refine Rg.lld (.tmp 3) 28 rfl hl8.out ?_) | (with_reducible refine Rg.isst (.tmp 6) (.tmp 35) 28 ?_; refine Rg.lst (.tmp 6) (.tmp 35) 28 rfl rfl st9 ?_))
    exact bodyPost_ret (v := .tuple #[.agg CS1, .int .i64 E1]) (Rg.res2 rfl rfl rfl k9.ld) rfl (show V2Post w r _ w9 by rw [hrr.out]; exact ⟨CS1, rfl, k9.dt, hb8.out.trans (o9.bel hRw.out)⟩)
  · subst h1
    have hrr : Hid (r = (d2, E2)) := by show _ = _; rw [hr'.out, if_neg (by simp), if_neg (by simp)]
    have i0 : w7.cell? ⟨I, 0, none⟩ = some (.int .i64 g) := kI8.out.cell 0
    have i1 : w7.cell? ⟨I, 1, none⟩ = some (.int .i64 n) := kI8.out.cell 1
    clear hr'
    go_wp2_with (first | (with_reducible refine Rg.isld (.tmp 3) 28 ?_; refine Rg.lld (.tmp 3) 28 rfl hl8.out ?_) | (go_at_call 37; refine (HV.out _ _ hb8.out kB8.out.dt).mono ?_; rintro e w9 ⟨CS2, rfl, a9, b9⟩; obtain ⟨wA, stA, kA, oA⟩ := (kR8.out.below b9.out).st a9.out) | (with_reducible refine Rg.isst (.tmp 6) (.tmp 41) 28 ?_; refine Rg.lst (.tmp 6) (.tmp 41) 28 rfl rfl stA ?_))
    exact bodyPost_ret (v := .tuple #[.agg CS2, .int .i64 E2]) (Rg.res2 rfl rfl rfl kA.ld) rfl (show V2Post w r _ wA by rw [hrr.out]; exact ⟨CS2, rfl, kA.dt, (Rg.chain hb8.out b9.out).trans (oA.bel hRw.out)⟩)
end Go.Proofs.YtmilfamjkiemaaaGreatDoor
