/-
  Layer 18: first, awake of the statements. Layer 18: mathematics: the order of the jobs of a calm disk; those of one system. No walk in it.
-/
import Derived.Test.YtgboghbicbnhiaaGreatDoorSoBH
import Derived.Test.YtgboghbicbnhiaaGreatDoorSoBI
import Derived.Test.YtgboghbicbnhiaaGreatDoorSoBA
namespace Go.Proofs.YtgboghbicbnhiaaGreatDoor
open Go.RowKit
/-- what first answers -/
def FstPost (w : World) (e : Ending) (w' : World) : Prop := ∃ CS, e = .returned (.tuple #[.agg CS, .agg #[.int .i64 110, .int .i64 1], .bool true]) ∧ Hid (DAt w' (.agg CS) Spl.q0.1) ∧ Hid (Below w.heap.size w w')
theorem held_onlyB {B : Nat} {CS : Array Value} {d : Dsk.Dk} {a : Option Addr} {L : List Spl.Hd} {W W' : World} (h : heldE.Row W a L) (h0 : DB B CS d W) (ho : Rg.Only B W W') : heldE.Row W' a L := by
  obtain ⟨sa, sc, oa, oc, e⟩ := h0.dt.cells
  have k := h0.bk
  subst e
  refine h.only k 0 (by decide) (fun x u hu => ?_) ho
  intro c
  simp at hu
  rcases hu with rfl | rfl | rfl | rfl | rfl <;> (simp [heldE, hc] at c)
set_option maxHeartbeats 2000000 in
set_option maxRecDepth 100000 in
theorem sfirst_any (w : World) (hw : Ok w) : Calls Tryz.prog 30 #[] w fun e w' => FstPost w e w' := by
  have HN : Hid (∀ W, Calls Tryz.prog 10 #[.int .i64 20000] W fun e w' => e = .returned (.agg #[.slice none 0 0, .slice none 0 0, .int .i64 20000, .int .i64 (-1), .bool false]) ∧ Below W.heap.size W w') := fun W => new_any 20000 W
  have hDn : Hid (∀ W, DAt W (.agg #[.slice none 0 0, .slice none 0 0, .int .i64 20000, .int .i64 (-1), .bool false]) (Dsk.new 20000)) := fun W => ⟨none, 0, none, 0, rfl, .inl ⟨rfl, rfl⟩, .inl ⟨rfl, rfl⟩, Nat.le_refl _, Nat.le_refl _⟩
  have HQ : Hid (∀ W, Below w.heap.size w W → Calls Tryz.prog 18 #[.agg #[.slice none 0 0, .slice none 0 0, .int .i64 20000, .int .i64 (-1), .bool false], .string ⟨#[100, 117, 107, 101]⟩, .agg #[.int .i64 110, .int .i64 0, .int .i64 1, .string ⟨#[97, 110, 110]⟩, .string ⟨#[47, 97]⟩, .string ⟨#[47, 98]⟩, .string ⟨#[]⟩, .int .i64 0], .string ⟨#[97, 98, 99]⟩] W fun e w' => ∃ CS, e = .returned (.tuple #[.agg CS, .agg #[.int .i64 110, .int .i64 1], .int .i64 0]) ∧ Hid (DAt w' (.agg CS) Spl.q0.1) ∧ Hid (Below W.heap.size W w')) := fun W hW => by
    have := queue_any _ (Dsk.new 20000) Spl.duke Spl.abc Spl.j0 W (Spl.Fit.new 20000) (by omega) ⟨by decide, by decide, by decide, by decide, by decide⟩ (hDn.out W) (hw.below hW)
    refine this.mono fun e w' ⟨CS, h1, h2, h3⟩ => ⟨CS, ?_, h2, h3⟩
    rw [h1]
    have e2 := Spl.q0_err
    show Ending.returned (.tuple #[.agg CS, .agg #[.int .i64 Spl.q0.2.1.1, .int .i64 Spl.q0.2.1.2], .int .i64 Spl.q0.2.2]) = _
    rw [e2]
  have kR : Hid (DB w.heap.size zcD zdk ((w.alloc (.cells #[.slice none 0 0, .slice none 0 0, .int .i64 0, .int .i64 0, .bool false] 28)).alloc (.cells #[.int .i64 0, .int .i64 0] 31))) := DB.old ⟨Rg.Bk.new rfl, zdk_at _⟩ _
  have kD : Hid (Rg.Bk (w.heap.size + 1) [.int .i64 0, .int .i64 0] 31 ((w.alloc (.cells #[.slice none 0 0, .slice none 0 0, .int .i64 0, .int .i64 0, .bool false] 28)).alloc (.cells #[.int .i64 0, .int .i64 0] 31))) := Rg.Bk.new (by simp)
  have hb := Rg.hid (Rg.al2 w (.cells #[.slice none 0 0, .slice none 0 0, .int .i64 0, .int .i64 0, .bool false] 28) (.cells #[.int .i64 0, .int .i64 0] 31))
  obtain ⟨dq, hdq⟩ : ∃ dq, dq = Spl.q0.1 := ⟨_, rfl⟩
  rw [← hdq] at HQ
  replace hdq := Rg.hid hdq
  clear hw hDn
  go_enter Tryz.func30, Tryz.ntmps30
  go_upto_region 1 with fail
  generalize World.alloc _ _ = w1 at *
  obtain ⟨R, hR⟩ : ∃ R, R = w.heap.size := ⟨_, rfl⟩
  obtain ⟨D, hD⟩ : ∃ D, D = w.heap.size + 1 := ⟨_, rfl⟩
  rw [← hD] at kD ⊢
  rw [← hR] at kR ⊢
  have hRw : Hid (w.heap.size ≤ R) := by show _ ≤ _; omega
  have nRD : R ≠ D := by omega
  have hDw : Hid (w.heap.size ≤ D) := by show _ ≤ _; omega
  clear hR hD
  go_upto_region 2 with (first | (go_at_call 10; refine (HN.out _).mono ?_; rintro e wn ⟨rfl, bn⟩; have hbn := Rg.hid (Rg.chain hb.out bn)) | (go_at_call 18; refine (HQ.out _ hbn.out).mono ?_; rintro e w2 ⟨CS1, rfl, a2, b2⟩; obtain ⟨w4, st4, k4, o4⟩ := (show DB w2.heap.size zcD zdk ((w2.alloc (.cells #[.slice none 0 0, .slice none 0 0, .int .i64 0, .int .i64 0, .bool false] 28)).alloc (.cells #[.int .i64 0, .int .i64 0] 31)) from DB.old ⟨Rg.Bk.new rfl, zdk_at _⟩ _).st (a2.out.below (Rg.al2 w2 (.cells #[.slice none 0 0, .slice none 0 0, .int .i64 0, .int .i64 0, .bool false] 28) (.cells #[.int .i64 0, .int .i64 0] 31))); obtain ⟨w5, st5, k5, o5⟩ := idst ((show Rg.Bk (w2.heap.size + 1) [.int .i64 0, .int .i64 0] 31 ((w2.alloc (.cells #[.slice none 0 0, .slice none 0 0, .int .i64 0, .int .i64 0, .bool false] 28)).alloc (.cells #[.int .i64 0, .int .i64 0] 31)) from Rg.Bk.new (by simp)).same (o4.block (w2.heap.size + 1) (by omega))) rfl 110 1) | (with_reducible refine Rg.isst (.tmp 3) (.tmp 11) 28 ?_; refine Rg.lst (.tmp 3) (.tmp 11) 28 rfl rfl st4 ?_) | (with_reducible refine Rg.isst (.tmp 4) (.tmp 12) 31 ?_; refine Rg.lst (.tmp 4) (.tmp 12) 31 rfl rfl st5 ?_))
  have k4' := Rg.hid (k4.onlyI ((show Rg.Bk (w2.heap.size + 1) [.int .i64 0, .int .i64 0] 31 ((w2.alloc (.cells #[.slice none 0 0, .slice none 0 0, .int .i64 0, .int .i64 0, .bool false] 28)).alloc (.cells #[.int .i64 0, .int .i64 0] 31)) from Rg.Bk.new (by simp)).same (o4.block (w2.heap.size + 1) (by omega))) (by omega) o5)
  have k5' := Rg.hid k5
  have b25 : Below w2.heap.size w2 w5 := ((Rg.al2 w2 (.cells #[.slice none 0 0, .slice none 0 0, .int .i64 0, .int .i64 0, .bool false] 28) (.cells #[.int .i64 0, .int .i64 0] 31)).trans (o4.bel (Nat.le_refl _))).trans (o5.bel (by omega))
  have hb5 := Rg.hid (Rg.chain (Rg.chain hbn.out b2.out) b25)
  have bw5 : Below w1.heap.size w1 w5 := Rg.chain (Rg.chain bn b2.out) b25
  have kR5 : Hid (DB R zcD zdk w5) := ⟨(kR.out.below bw5).bk, zdk_at _⟩
  have kD5 := Rg.hid (kD.out.below bw5 kD.out.lt)
  have hXl : w1.heap.size ≤ w2.heap.size := (Rg.chain bn b2.out).size
  obtain ⟨X, hX⟩ : ∃ X, X = w2.heap.size := ⟨_, rfl⟩
  obtain ⟨Y, hY⟩ : ∃ Y, Y = w2.heap.size + 1 := ⟨_, rfl⟩
  have l1 := kR.out.lt
  have l2 := kD.out.lt
  have nRX : R ≠ X := by omega
  have nRY : R ≠ Y := by omega
  have nDX : D ≠ X := by omega
  have nDY : D ≠ Y := by omega
  rw [← hY] at k5' ⊢
  rw [← hX] at k4' ⊢
  clear hX hY l1 l2 hXl bw5 b25 k4 k5 o4 o5 st4 st5 a2 b2 bn hbn kR kD hb HN HQ
  try dsimp only at k4'
  refine Rg.beginL (fun (w' : World) => DB X CS1 dq w' ∧ Rg.Bk Y [.int .i64 110, .int .i64 1] 31 w') [] (by kernel_rfl) ?_ (fun hH0 => ?_)
  · exact ⟨k4'.out.drew, k5'.out.drew⟩
  refine Rg.tlv 0 (some 14) (.agg CS1) (fun w hSw => Rg.xload _ _ rfl rfl (hSw.1.ld)) ?_
  refine Rg.tlv 1 (some 15) (.agg #[.int .i64 110, .int .i64 1]) (fun w hSw => Rg.xload _ _ rfl rfl (idld hSw.2)) ?_
  refine Rg.tlq 2 (some 16) ?_
  refine Rg.tlq 3 (some 17) ?_
  obtain ⟨w7, st7, k7, o7⟩ := kR5.out.drew.st k4'.out.drew.dt
  have kD7 := Rg.hid (kD5.out.drew.same (o7.block D nRD.symm))
  obtain ⟨w8, st8, k8, o8⟩ := idst kD7.out rfl 110 1
  have k9 := Rg.hid (k7.onlyI kD7.out nRD o8)
  have kX7 := Rg.hid (k4'.out.drew.only kR5.out.drew nRX.symm o7)
  have kY7 := Rg.hid (k5'.out.drew.same (o7.block Y nRY.symm))
  have kX8 := Rg.hid (kX7.out.onlyI kD7.out nDX.symm o8)
  have kY8 := Rg.hid (kY7.out.same (o8.block Y nDY.symm))
  refine Rg.AnyL.one 4 (o := { dst := none, op := _, type := _, pos := _, after := _, guard := _ }) (by decide) (fun K hK => ?_)
  refine Rg.xstore rfl _ _ _ rfl rfl rfl st7 ?_
  refine hK.out _ _ ?_ (fun hH1 => ?_)
  · exact ⟨kX7.out, kY7.out⟩
  clear hK K hH0
  try simp only [Act.put]
  refine Rg.AnyL.one 5 (o := { dst := none, op := _, type := _, pos := _, after := _, guard := _ }) (by decide) (fun K hK => ?_)
  refine Rg.xstore rfl _ _ _ rfl rfl rfl st8 ?_
  refine hK.out _ _ ?_ (fun hH2 => ?_)
  · exact ⟨kX8.out, kY8.out⟩
  clear hK K hH1
  try simp only [Act.put]
  refine Rg.tlq 6 (some 2) ?_
  refine Rg.AnyL.done ?_
  go_wp2
  exact bodyPost_ret (v := .tuple #[.agg CS1, .agg #[.int .i64 110, .int .i64 1], .bool true]) (Rg.rescc rfl rfl rfl rfl k9.out.ld (idld k8)) rfl ⟨CS1, rfl, (by rw [← hdq.out]; exact k9.out.dt : DAt w8 (.agg CS1) Spl.q0.1), (hb5.out.drew.trans (o7.bel hRw.out)).trans (o8.bel hDw.out)⟩
set_option maxHeartbeats 2000000 in
set_option maxRecDepth 100000 in
theorem sawake_any (w : World) (hw : Ok w) : Calls Tryz.prog 9 #[] w fun e w' => e = .returned (.bool true) ∧ Below w.heap.size w w' := by
  have HF := Rg.hid (sfirst_any w hw)
  obtain ⟨dq, hdq⟩ : ∃ dq, dq = Spl.q0.1 := ⟨_, rfl⟩
  obtain ⟨rd, hrd⟩ : ∃ rd, rd = Spl.done Spl.q0.1 Spl.duke 110 1 := ⟨_, rfl⟩
  have hr0 : Hid (rd.2 = 0) := by show _ = _; rw [hrd]; exact Spl.q0_done.1
  have HJ : Hid (∀ W CS, Below w.heap.size w W → DAt W (.agg CS) dq → Calls Tryz.prog 22 #[.agg CS, .string ⟨#[100, 117, 107, 101]⟩] W fun e w' => ∃ a c, e = .returned (.slice a 1 c) ∧ Hid (heldE.Row w' a [Spl.h0]) ∧ Hid (Below W.heap.size W w')) := fun W CS hW hv => by
    rw [hdq] at hv
    refine (jobs_any _ Spl.q0.1 Spl.duke W Spl.q0_fit.sm.ok (Fit.mild Spl.q0_fit (by omega)) hv (hw.below hW)).mono fun e w' ⟨a, c, L, h1, h2, h3, h4⟩ => ?_
    have hL := Spl.q0_jobs h2.out
    subst hL
    exact ⟨a, c, h1, h3, h4⟩
  have HD : Hid (∀ W CS, Below w.heap.size w W → DAt W (.agg CS) dq → Calls Tryz.prog 12 #[.agg CS, .string ⟨#[100, 117, 107, 101]⟩, .agg #[.int .i64 110, .int .i64 1]] W fun e w' => ∃ CS', e = .returned (.tuple #[.agg CS', .int .i64 0]) ∧ Hid (DAt w' (.agg CS') rd.1) ∧ Hid (Below W.heap.size W w')) := fun W CS hW hv => by
    rw [hdq] at hv
    refine (done_any _ Spl.q0.1 Spl.duke 110 1 W Spl.q0_fit (by omega) (by decide) hv (hw.below hW)).mono fun e w' ⟨CS', h1, h2, h3⟩ => ⟨CS', ?_, ?_, h3⟩
    · rw [h1, ← hrd, hr0.out]
    · rw [hrd]; exact h2
  have HE : Hid (∀ W CS, Below w.heap.size w W → DAt W (.agg CS) rd.1 → Calls Tryz.prog 22 #[.agg CS, .string ⟨#[]⟩] W fun e w' => ∃ a c, e = .returned (.slice a 0 c) ∧ Hid (Below W.heap.size W w')) := fun W CS hW hv => by
    rw [hrd] at hv
    have hf := Spl.q0_fit.done (by omega) Spl.duke 110 1
    refine (jobs_any _ _ ⟨#[]⟩ W hf.sm.ok (Fit.mild hf (by omega)) hv (hw.below hW)).mono fun e w' ⟨a, c, L, h1, h2, h3, h4⟩ => ?_
    have hL := Spl.q0_none h2.out
    subst hL
    exact ⟨a, c, h1, h4⟩
  unfold FstPost at HF
  rw [← hdq] at HF
  generalize rd.1 = d2 at *
  clear hdq hrd hr0 rd hw
  go_enter Tryz.func9, Tryz.ntmps9
  go_upto_region 2 with (first | (go_at_call 30; refine HF.out.mono ?_; rintro e w1 ⟨CS1, rfl, a1, b1⟩; obtain ⟨w4, st4, k4, o4⟩ := (show DB w1.heap.size zcD zdk ((w1.alloc (.cells #[.slice none 0 0, .slice none 0 0, .int .i64 0, .int .i64 0, .bool false] 28)).alloc (.cells #[.int .i64 0, .int .i64 0] 31)) from DB.old ⟨Rg.Bk.new rfl, zdk_at _⟩ _).st (a1.out.below (Rg.al2 w1 (.cells #[.slice none 0 0, .slice none 0 0, .int .i64 0, .int .i64 0, .bool false] 28) (.cells #[.int .i64 0, .int .i64 0] 31))); obtain ⟨w5, st5, k5, o5⟩ := idst ((show Rg.Bk (w1.heap.size + 1) [.int .i64 0, .int .i64 0] 31 ((w1.alloc (.cells #[.slice none 0 0, .slice none 0 0, .int .i64 0, .int .i64 0, .bool false] 28)).alloc (.cells #[.int .i64 0, .int .i64 0] 31)) from Rg.Bk.new (by simp)).same (o4.block (w1.heap.size + 1) (by omega))) rfl 110 1) | (with_reducible refine Rg.isst (.tmp 1) (.tmp 8) 28 ?_; refine Rg.lst (.tmp 1) (.tmp 8) 28 rfl rfl st4 ?_) | (with_reducible refine Rg.isst (.tmp 2) (.tmp 9) 31 ?_; refine Rg.lst (.tmp 2) (.tmp 9) 31 rfl rfl st5 ?_))
  have kX := Rg.hid (k4.onlyI ((show Rg.Bk (w1.heap.size + 1) [.int .i64 0, .int .i64 0] 31 ((w1.alloc (.cells #[.slice none 0 0, .slice none 0 0, .int .i64 0, .int .i64 0, .bool false] 28)).alloc (.cells #[.int .i64 0, .int .i64 0] 31)) from Rg.Bk.new (by simp)).same (o4.block (w1.heap.size + 1) (by omega))) (by omega) o5)
  have kY := Rg.hid k5
  have hb5 : Hid (Below w.heap.size w w5) := Rg.chain b1.out (((Rg.al2 w1 (.cells #[.slice none 0 0, .slice none 0 0, .int .i64 0, .int .i64 0, .bool false] 28) (.cells #[.int .i64 0, .int .i64 0] 31)).trans (o4.bel (Nat.le_refl _))).trans (o5.bel (by omega)))
  obtain ⟨X, hX⟩ : ∃ X, X = w1.heap.size := ⟨_, rfl⟩
  obtain ⟨Y, hY⟩ : ∃ Y, Y = w1.heap.size + 1 := ⟨_, rfl⟩
  have nXY : X ≠ Y := by omega
  have hXw : Hid (w.heap.size ≤ X) := by show _ ≤ _; rw [hX]; exact b1.out.size
  rw [← hY] at kY ⊢
  rw [← hX] at kX ⊢
  clear hX hY k4 k5 o4 o5 st4 st5 a1 b1 HF
  try dsimp only at kX
  have hl5 := Rg.hid kX.out.ld
  go_upto_region 3 with (first | (with_reducible refine Rg.isld (.tmp 1) 28 ?_; refine Rg.lld (.tmp 1) 28 rfl hl5.out ?_) | (go_at_call 22; refine (HJ.out _ _ hb5.out kX.out.dt).mono ?_; rintro e w6 ⟨ja, jc, rfl, jr, jb⟩))
  have kX6 := Rg.hid (kX.out.below jb.out)
  have kY6 := Rg.hid (kY.out.below jb.out kY.out.lt)
  have hb6 := Rg.hid (Rg.chain hb5.out jb.out)
  clear kX kY hb5 jb HJ hl5
  have hl6 := Rg.hid kX6.out.ld
  have y0 : w6.cell? ⟨Y, 0, none⟩ = some (.int .i64 110) := kY6.out.cell 0
  have y1 : w6.cell? ⟨Y, 1, none⟩ = some (.int .i64 1) := kY6.out.cell 1
  go_upto_region 4 with (first | (with_reducible refine Rg.isld (.tmp 1) 28 ?_; refine Rg.lld (.tmp 1) 28 rfl hl6.out ?_) | (go_at_call 12; refine (HD.out _ _ hb6.out kX6.out.dt).mono ?_; rintro e w7 ⟨CS7, rfl, a7, b7⟩; obtain ⟨w8, st8, k8, o8⟩ := (kX6.out.below b7.out).st a7.out) | (with_reducible refine Rg.isst (.tmp 1) (.tmp 17) 28 ?_; refine Rg.lst (.tmp 1) (.tmp 17) 28 rfl rfl st8 ?_))
  have kX8 := Rg.hid k8
  have kY8 := Rg.hid ((kY6.out.below b7.out kY6.out.lt).same (o8.block Y nXY.symm))
  have hb8 := Rg.hid ((Rg.chain hb6.out b7.out).trans (o8.bel hXw.out))
  have jr8 := held_onlyB (jr.out.below b7.out) (kX6.out.below b7.out) o8
  clear kX6 kY6 hb6 b7 a7 st8 k8 o8 y0 y1 hl6 HD jr
  obtain ⟨rb, ro, rfl, hrb, hat⟩ : ∃ b o, ja = some ⟨b, o, none⟩ ∧ b < w8.heap.size ∧ Rg.At w8 b o (heldE.flat [Spl.h0]) := by
    rcases jr8 with ⟨_, h⟩ | h
    · cases h
    · exact h
  have at0 : Rg.At w8 rb (ro + 0 * 10) (heldE.enc Spl.h0) := hat.elem (l := [Spl.h0]) (i := 0) (by simp)
  rw [Nat.zero_mul, Nat.add_zero] at at0
  obtain ⟨_, _, _, _, _, _, _, _, q8, q9⟩ := held_at at0
  have r8 : w8.cell? ⟨rb, ro + 8, none⟩ = some (.int .i64 3) := q8
  have r9 : w8.cell? ⟨rb, ro + 9, none⟩ = some (.string ⟨#[97, 98, 99]⟩) := q9
  have y0 : w8.cell? ⟨Y, 0, none⟩ = some (.int .i64 110) := kY8.out.cell 0
  have y1 : w8.cell? ⟨Y, 1, none⟩ = some (.int .i64 1) := kY8.out.cell 1
  have hl8 := Rg.hid kX8.out.ld
  clear hat at0 q8 q9 jr8 hrb
  go_wp2_with (first | (refine Rg.wpList_load_row rfl (.tmp 1) 28 rfl rfl hl8.out ?_) | (go_at_call 22; refine (HE.out _ _ hb8.out kX8.out.dt).mono ?_; rintro e w9 ⟨ka, kc, rfl, kb⟩))
  go_ret
  exact ⟨by first | rfl | simp, Rg.chain hb8.out kb.out⟩
end Go.Proofs.YtgboghbicbnhiaaGreatDoor

namespace Go.Proofs.YtgboghbicbnhiaaGreatDoor
namespace Spl
open Dsk
theorem FullI.jobs {m : Nat} {d : Dk} {ws L : List Hd} (h : FullI m d ws) (hr : Row ((files d).filterMap (pick (files d) 67 ⟨#[]⟩)) L) : ws.length = L.length := (h.calm.jobs hr).length_eq.symm
theorem FullI.ids {m : Nat} {d : Dk} {ws L : List Hd} (h : FullI m d ws) (hr : Row ((files d).filterMap (pick (files d) 67 ⟨#[]⟩)) L) {i : Nat} (hi : i + 1 < L.length) :
    (decide (L[i].j.g > L[i + 1].j.g) = false) ∧ (L[i].j.g = L[i + 1].j.g → decide (L[i].j.n ≥ L[i + 1].j.n) = false) := row_ids hr (h.calm.jobs hr) h.calm.que.up hi
theorem FullI.some {m : Nat} {d : Dk} {ws L M : List Hd} (h : FullI m d ws) {sys : ByteArray} (hs : sys ≠ ⟨#[]⟩) (hL : Row ((files d).filterMap (pick (files d) 67 ⟨#[]⟩)) L) (hM : Row ((files d).filterMap (pick (files d) 67 sys)) M) :
    L.filter (fun a => decide (a.s = sys)) = M :=
  row_some (F := files d) (by rw [h.calm.files]; exact h.calm.que.srt) (by rw [h.calm.files]; exact h.calm.que.ne) hs hL hM
theorem filt_succ {L : List Hd} {sys : ByteArray} {i : Nat} (hi : i < L.length) : (L.take (i + 1)).filter (fun a => decide (a.s = sys)) = (L.take i).filter (fun a => decide (a.s = sys)) ++ (if L[i].s = sys then [L[i]] else []) := by
  rw [List.take_succ_eq_append_getElem hi, List.filter_append]
  by_cases e : L[i].s = sys <;> simp [e]
end Spl
end Go.Proofs.YtgboghbicbnhiaaGreatDoor
