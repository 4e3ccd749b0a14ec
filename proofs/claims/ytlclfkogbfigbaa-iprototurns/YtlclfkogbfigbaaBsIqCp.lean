/-
  Layer 16: awake.
-/
import Derived.Test.YtlclfkogbfigbaaCuBM
namespace Go.Proofs.Ytlclfkogbfigbaa
open Go.RowKit
namespace Ip
theorem inOne_take (l : List Gp.Pc) (i : Nat) (h : i < l.length) : inOne (l.take (i + 1)) = inOne (l.take i) ++ (if l[i].ch == 1 then l[i].data.data.toList else []) := by
  rw [← List.take_append_getElem h]
  simp only [inOne, List.filter_append, List.flatMap_append]
  congr 1
  by_cases c : (l[i].ch == 1) = true
  · simp [c]
  · simp [Bool.not_eq_true _ ▸ c]
theorem inOne_step (l : List Gp.Pc) (i : Nat) (h : i < l.length) (a : List UInt8) : (l[i].ch = 1 → (⟨(a ++ inOne (l.take i)).toArray⟩ : ByteArray) ++ l[i].data = ⟨(a ++ inOne (l.take (i + 1))).toArray⟩) ∧ (¬ l[i].ch = 1 → (⟨(a ++ inOne (l.take i)).toArray⟩ : ByteArray) = ⟨(a ++ inOne (l.take (i + 1))).toArray⟩) := by
  rw [inOne_take l i h]
  refine ⟨fun c => ?_, fun c => ?_⟩
  · have e : l[i].data = ⟨l[i].data.data.toList.toArray⟩ := rfl
    have d : (l[i].ch == 1) = true := by simpa using c
    rw [if_pos d, ← List.append_assoc]
    exact Ip.cat_bytes (a ++ inOne (l.take i)) l[i].data.data.toList
  · have d : ¬ (l[i].ch == 1) = true := by simpa using c
    rw [if_neg d, List.append_nil]
theorem inOne_app (l k : List Gp.Pc) : inOne (l ++ k) = inOne l ++ inOne k := by simp [inOne]
theorem inOne_len (l : List Gp.Pc) (i : Nat) (h : i < l.length) : l[i].ch = 1 → (inOne (l.take i)).length + l[i].data.size ≤ (inOne l).length := by
  intro c
  have e : inOne l = inOne (l.take (i + 1)) ++ inOne (l.drop (i + 1)) := by rw [← inOne_app, List.take_append_drop]
  have d : (l[i].ch == 1) = true := by simpa using c
  have e2 : l[i].data.size = l[i].data.data.toList.length := (Array.length_toList ..).symm
  rw [e, inOne_take l i h, if_pos d, List.length_append, List.length_append, e2]
  omega
end Ip
theorem idh_win {Kp : Nat → Prop} {W : World} {d : Gp.Dr} {CS : Array Value} {B : Nat} (h : IDH Kp W d CS) (k : Rg.Bk B CS.toList 32 W) : ∃ a c, W.cell? ⟨B, 9, none⟩ = some (.slice a d.win.l.length c) := by
  obtain ⟨p, rfl, _⟩ := h
  exact ⟨_, _, k.cell 9⟩
/-- what stands between two rounds -/
def IAwI (Kp : Nat → Prop) (BA BB : Nat) (w w4 wr : World) (n : Nat) : Prop := ∃ CA CB, Rg.Bk BA (Array.toList CA) 32 wr ∧ Rg.Bk BB (Array.toList CB) 32 wr ∧ IDH Kp wr (Ip.awN n).a CA ∧ IDH Kp wr (Ip.awN n).b CB ∧ Below w.heap.size w wr ∧ w4.heap.size ≤ wr.heap.size
theorem idh_phase {Kp : Nat → Prop} {W : World} {d : Gp.Dr} {CS : Array Value} {B : Nat} (h : IDH Kp W d CS) (k : Rg.Bk B CS.toList 32 W) : W.cell? ⟨B, 1, none⟩ = some (.int .i64 d.phase) ∧ W.cell? ⟨B, 4, none⟩ = some (.int .i64 d.size) ∧ W.cell? ⟨B, 5, none⟩ = some (.int .i64 d.room) := by
  obtain ⟨p, rfl, _⟩ := h
  exact ⟨k.cell 1, k.cell 4, k.cell 5⟩
set_option maxHeartbeats 4000000 in
set_option maxRecDepth 100000 in
theorem iawake_any (w : World) : Calls Try.prog 4 #[] w fun e w' => e = .returned (.bool true) ∧ Below w.heap.size w w' := by
  have HB1 := Rg.hid (fun W => ihbegin (fun _ => True) true 100 3 W (by decide) (by decide))
  have HB2 := Rg.hid (fun W => ihbegin (fun _ => True) false 50 16 W (by decide) (by decide))
  obtain ⟨A0, hA0⟩ : ∃ A0, A0 = Ip.begin_ true 100 3 := ⟨_, rfl⟩
  obtain ⟨B0, hB0⟩ : ∃ B0, B0 = Ip.begin_ false 50 16 := ⟨_, rfl⟩
  obtain ⟨s0, hs0⟩ : ∃ s0, s0 = Ip.sync (Ip.begin_ true 100 3) := ⟨_, rfl⟩
  obtain ⟨t0, ht0⟩ : ∃ t0, t0 = Ip.sync (Ip.begin_ false 50 16) := ⟨_, rfl⟩
  rw [← hs0, ← hA0] at HB1
  rw [← ht0, ← hB0] at HB2
  replace hA0 := Rg.hid hA0
  replace hB0 := Rg.hid hB0
  replace hs0 := Rg.hid hs0
  replace ht0 := Rg.hid ht0
  go_enter Try.func4, Try.ntmps4
  go_upto_region 2 with (first | (go_at_call 5; refine (HB1.out _).mono ?_; rintro e w1 ⟨CA, rfl, hA1, b1⟩; obtain ⟨w2, st2, k2, b2, hA2⟩ := hA1.out.box) | (with_reducible refine is_store (.tmp 1) (.tmp 18) 32 ?_; refine list_store (.tmp 1) (.tmp 18) 32 rfl rfl st2.out ?_))
  obtain ⟨BA, hBA⟩ : ∃ BA, BA = w1.heap.size := ⟨_, rfl⟩
  rw [← hBA] at k2 ⊢
  have hBAw : Hid (w.heap.size ≤ BA) := by show _ ≤ _; have := b1.out.size; omega
  replace hBA := Rg.hid hBA
  have b12 := Rg.hid (Rg.chain b1.out b2.out)
  clear HB1 hA1 st2 b1 b2
  go_upto_region 3 with (first | (go_at_call 5; refine (HB2.out _).mono ?_; rintro e w3 ⟨CB, rfl, hB3, b3⟩; obtain ⟨w4, st4, k4, b4, hB4⟩ := hB3.out.box) | (with_reducible refine is_store (.tmp 4) (.tmp 23) 32 ?_; refine list_store (.tmp 4) (.tmp 23) 32 rfl rfl st4.out ?_))
  obtain ⟨BB, hBB⟩ : ∃ BB, BB = w3.heap.size := ⟨_, rfl⟩
  rw [← hBB] at k4 ⊢
  have hAB : Hid (BA < BB) := by show _ < _; have := k2.out.lt; have := b3.out.size; omega
  replace hBB := Rg.hid hBB
  have b24 := Rg.hid (Rg.chain b3.out b4.out)
  have b04 := Rg.hid (Rg.chain b12.out b24.out)
  have kA4 := Rg.hid (k2.out.below b24.out k2.out.lt)
  obtain ⟨Kp, hKp⟩ : ∃ Kp : Nat → Prop, Kp = fun b => b ≠ BA ∧ b ≠ BB := ⟨_, rfl⟩
  have hnA : Hid (¬ Kp BA) := by show ¬ _; rw [hKp]; exact fun h => h.1 rfl
  have hnB : Hid (¬ Kp BB) := by show ¬ _; rw [hKp]; exact fun h => h.2 rfl
  have hBl := k4.out.lt
  have hK4 : Hid (∀ W : World, w4.heap.size ≤ W.heap.size → ∀ b, W.heap.size ≤ b → Kp b) := by
    intro W h1 b h2
    rw [hKp]
    have := hAB.out
    constructor <;> omega
  clear hBl
  replace hKp := Rg.hid hKp
  have hA4 : Hid (IDH Kp w4 A0 CA) := (hA2.out.below b24.out).any (by rw [hA0.out]; rfl) (by rw [hA0.out]; rfl) (by rw [hA0.out]; rfl) (by rw [hA0.out]; rfl)
  have hB4' : Hid (IDH Kp w4 B0 CB) := hB4.out.any (by rw [hB0.out]; rfl) (by rw [hB0.out]; rfl) (by rw [hB0.out]; rfl) (by rw [hB0.out]; rfl)
  have hldA := Rg.hid (hA4.out.load kA4.out)
  have HS := Rg.hid (ihsend hA4.out (by rw [hA0.out]; exact Ip.right_begin true (by decide) (by decide)) ⟨1, ⟨Ip.hello.toArray⟩⟩ (by rw [hA0.out]; exact Nat.zero_le _) (hK4.out w4 (Nat.le_refl _)))
  obtain ⟨r1, hr1⟩ : ∃ r1, r1 = Ip.send A0 ⟨1, ⟨Ip.hello.toArray⟩⟩ := ⟨_, rfl⟩
  rw [← hr1] at HS
  replace hr1 := Rg.hid hr1
  replace HS : Hid (Calls Try.prog 7 #[.agg CA, .agg #[.int .i64 1, .string ⟨#[104, 101, 108, 108, 111]⟩]] w4 fun e w' => IHPost Kp w4 r1 e w') := HS
  clear HB2 hB3 st4 b3 b4 hA2 hB4 k2 b12 b24
  go_upto_region 6 with (first | (with_reducible refine is_load (.tmp 1) 32 ?_; refine list_load (.tmp 1) 32 rfl hldA.out ?_) | (go_at_call 7; refine HS.out.mono ?_; rintro e w5 ⟨CA5, rfl, hA5, b5⟩; obtain ⟨w6, st6, kA6, o6⟩ := hA5.out.over hA4.out (kA4.out.below b5.out kA4.out.lt)) | (with_reducible refine is_store (.tmp 1) (.tmp 36) 32 ?_; refine list_store (.tmp 1) (.tmp 36) 32 rfl rfl st6.out ?_))
  have hI0 : Hid (IAwI Kp BA BB w w4 w6 0) := by
    refine ⟨CA5, CB, kA6.out, (k4.out.below b5.out k4.out.lt).same (o6.out.block BB (by have := hAB.out; omega)), ?_, ?_, ?_, ?_⟩
    · have := hA5.out.only hnA.out o6.out
      rw [hr1.out, hA0.out] at this
      exact this
    · have := (hB4'.out.below b5.out).only hnA.out o6.out
      rw [hB0.out] at this
      exact this
    · exact (Rg.chain b04.out b5.out).trans (o6.out.bel hBAw.out)
    · rw [o6.out.size]; exact b5.out.size
  clear HS hldA hA4 hB4' kA4 k4 hA5 b5 st6 kA6 o6
  go_wp2
  go_loopw [2, 5, 7, 38] (fun vs vt vc vi wr => ∃ n : Nat, n ≤ 4 ∧ vi = .int .i64 n ∧ vs = .string ⟨(Ip.awN n).s.toArray⟩ ∧ vt = .string ⟨(Ip.awN n).t.toArray⟩ ∧ vc = .string ⟨(Ip.awN n).c.toArray⟩ ∧ Hid (IAwI Kp BA BB w w4 wr n)) (fun _ _ _ vi _ => 4 - (intOf vi).toNat)
  case atStart => exact ⟨0, by omega, rfl, by rw [hs0.out]; rfl, by rw [ht0.out]; rfl, rfl, hI0⟩
  case round =>
    obtain ⟨n, hn, rfl, rfl, rfl, rfl, hI⟩ := hrel
    obtain ⟨CA, CB, kA, kB, hA, hB, bw, hsz⟩ := hI.out
    by_cases hlt : n < 4
    · obtain ⟨z1, z2, z3, z4, z5, z6, z7, z9⟩ := Ip.aw_small n (by omega)
      have z8 := (Ip.aw_small (n + 1) (by omega)).2.2.2.2.2.2.1
      have hSh := Ip.aw_short n
      have hR := Ip.aw_right n (by omega)
      have HF1 := Rg.hid (ihfeed hA hR.1 (Ip.awN n).t (by omega) (by omega) (fun x hx => Nat.le_trans ((Ip.feed_small hSh.1 _).2 x hx) (by decide)) (hK4.out wr hsz))
      have HF2 : Hid (∀ W, Below wr.heap.size wr W → Calls Try.prog 6 #[.agg CB, .string ⟨(Ip.awN n).s.toArray⟩] W fun e w' => IHFPost Kp W (Ip.feed (Ip.awN n).b (Ip.awN n).s) e w') := fun W hW => ihfeed (hB.below hW) hR.2 (Ip.awN n).s (by omega) (by omega) (fun x hx => Nat.le_trans ((Ip.feed_small hSh.2 _).2 x hx) (by decide)) (hK4.out W (Nat.le_trans hsz hW.size))
      obtain ⟨q1, hq1⟩ : ∃ q, q = Ip.feed (Ip.awN n).a (Ip.awN n).t := ⟨_, rfl⟩
      obtain ⟨q2, hq2⟩ : ∃ q, q = Ip.feed (Ip.awN n).b (Ip.awN n).s := ⟨_, rfl⟩
      rw [← hq1] at HF1
      rw [← hq2] at HF2 z9
      have eN : Hid (Ip.awN (n + 1) = ⟨q1.1, q1.2.1, q2.1, q2.2.1, (Ip.awN n).c ++ Ip.inOne (Ip.join q2.2.2)⟩) := by show _ = _; rw [hq1, hq2]; rfl
      replace z8 : ((Ip.awN n).c ++ Ip.inOne (Ip.join q2.2.2)).length ≤ 1000 := by rw [eN.out] at z8; exact z8
      rw [List.length_append] at z8
      replace z8 := Rg.hid z8
      replace z9 := Rg.hid z9
      clear hq1 hq2 z1 z2 z3 z4 z5 z6 z7 hR hSh
      have hn6 : decide ((n : Int) < 4) = true := by simp; omega
      generalize (Ip.awN n).s = sn at *
      generalize (Ip.awN n).t = tn at *
      generalize (Ip.awN n).c = cn at *
      replace kA := Rg.hid kA
      replace kB := Rg.hid kB
      replace hA := Rg.hid hA
      replace hB := Rg.hid hB
      replace bw := Rg.hid bw
      replace hsz := Rg.hid hsz
      have hldA := Rg.hid (hA.out.load kA.out)
      clear hI hI0
      go_upto_region 10 with (first | (with_reducible refine is_load (.tmp 1) 32 ?_; refine list_load (.tmp 1) 32 rfl hldA.out ?_) | (go_at_call 6; refine HF1.out.mono ?_; rintro e w1 ⟨CX, ax, lx, rfl, hX1, b1, _⟩; obtain ⟨w2, st2, kX2, b2, hX2⟩ := hX1.out.box) | (with_reducible refine is_store (.tmp 8) (.tmp 44) 32 ?_; refine list_store (.tmp 8) (.tmp 44) 32 rfl rfl st2.out ?_))
      obtain ⟨B8, hB8⟩ : ∃ B8, B8 = w1.heap.size := ⟨_, rfl⟩
      rw [← hB8] at kX2 ⊢
      replace hB8 := Rg.hid hB8
      have b12 := Rg.hid (Rg.chain b1.out b2.out)
      have kA2 := Rg.hid (kA.out.below b12.out kA.out.lt)
      have kB2 := Rg.hid (kB.out.below b12.out kB.out.lt)
      have hldB := Rg.hid (hB.out.load kB2.out)
      have HF3 := Rg.hid (HF2.out w2 b12.out)
      clear HF1 HF2 hldA st2 hX1
      go_upto_region 11 with (first | (with_reducible refine is_load (.tmp 4) 32 ?_; refine list_load (.tmp 4) 32 rfl hldB.out ?_) | (go_at_call 6; refine HF3.out.mono ?_; rintro e w3 ⟨CY, ay, cy, rfl, hY3, b3, hl⟩; obtain ⟨w4', st4, kY4, b4, hY4⟩ := hY3.out.box) | (with_reducible refine is_store (.tmp 11) (.tmp 51) 32 ?_; refine list_store (.tmp 11) (.tmp 51) 32 rfl rfl st4.out ?_))
      obtain ⟨B11, hB11⟩ : ∃ B11, B11 = w3.heap.size := ⟨_, rfl⟩
      rw [← hB11] at kY4 ⊢
      replace hB11 := Rg.hid hB11
      have b34 := Rg.hid (Rg.chain b3.out b4.out)
      have kX4 := Rg.hid (kX2.out.below b34.out kX2.out.lt)
      have kA4 := Rg.hid (kA2.out.below b34.out kA2.out.lt)
      have kB4 := Rg.hid (kB2.out.below b34.out kB2.out.lt)
      have hX4 := Rg.hid (hX2.out.below b34.out)
      have n8A : B8 ≠ BA := by have := hB8.out; have := kA.out.lt; have := b1.out.size; omega
      have n8B : B8 ≠ BB := by have := hB8.out; have := kB.out.lt; have := b1.out.size; omega
      have n11A : B11 ≠ BA := by have := hB11.out; have := kA2.out.lt; have := b3.out.size; omega
      have n11B : B11 ≠ BB := by have := hB11.out; have := kB2.out.lt; have := b3.out.size; omega
      have bw4 := Rg.hid (Rg.chain (Rg.chain bw.out b12.out) b34.out)
      obtain ⟨ly, hly⟩ : ∃ l, l = Ip.join q2.2.2 := ⟨_, rfl⟩
      rw [← hly] at hl z8 z9 eN ⊢
      have hr4 := Rg.hid (hl.out.1.below b4.out)
      have hkl := Rg.hid hl.out.2
      replace hly := Rg.hid hly
      obtain ⟨ln, hln⟩ : ∃ ln, ln = ly.length := ⟨_, rfl⟩
      rw [← hln]
      have hl1 : Hid (ln ≤ 1000) := by show _ ≤ _; rw [hln]; exact z9.out
      replace hln := Rg.hid hln
      obtain ⟨w5, st5, kA5, o5⟩ := IDH.over (W := w4'.drew) (hX4.out.below (Below.refl _ _).drew) hA.out (kA4.out.drew)
      have nAB : BB ≠ BA := by have := hAB.out; omega
      have kX5 := Rg.hid (kX4.out.drew.same (o5.out.block B8 n8A))
      have kY5 := Rg.hid (kY4.out.drew.same (o5.out.block B11 n11A))
      have kB5 := kB4.out.drew.same (o5.out.block BB nAB)
      have hY5 := (hY4.out.below (Below.refl _ _).drew).only hnA.out o5.out
      obtain ⟨w6, st6, kB6, o6⟩ := IDH.over (W := w5) hY5 hB.out kB5
      have kX6 := Rg.hid (kX5.out.same (o6.out.block B8 n8B))
      have kY6 := Rg.hid (kY5.out.same (o6.out.block B11 n11B))
      have kA6 := Rg.hid (kA5.out.same (o6.out.block BA (fun e => nAB e.symm)))
      have hX6 := Rg.hid (((hX4.out.below (Below.refl _ _).drew).only hnA.out o5.out).only hnB.out o6.out)
      have hY6 := Rg.hid (hY5.only hnB.out o6.out)
      have hr6 := Rg.hid (iarow_only (iarow_only (hr4.out.below (Below.refl _ _).drew) hkl.out hnA.out o5.out) hkl.out hnB.out o6.out)
      have bw6 := Rg.hid ((bw4.out.drew.trans (o5.out.bel hBAw.out)).trans (o6.out.bel (by have := hAB.out; have := hBAw.out; omega)))
      have hs6 : Hid (w4.heap.size ≤ w6.heap.size) := by
        show _ ≤ _
        rw [o6.out.size, o5.out.size]
        exact Nat.le_trans hsz.out (Nat.le_trans b12.out.size b34.out.size)
      have hX2' := hX2
      have hY4' := hY4
      clear kB5 hY5 n8A n8B n11A n11B nAB hr4 hkl bw4 kA4 kB4 hX4 kA2 kB2 hA hB kA kB kA5 o5 o6 b12 b34 HF3 hldB b1 b2 b3 b4 bw hsz hY3 hl
      refine wp_region_held_drew (S := fun (w' : World) => Rg.Bk B8 CX.toList 32 w' ∧ Rg.Bk B11 CY.toList 32 w') (by kernel_rfl) ?_ (fun hH0 => ?_)
      · exact ⟨kX4.out, kY4.out⟩
      refine wpAnyH_take (i := 0) (oi := { dst := some 54, op := _, type := _, pos := _, after := _, guard := _ }) (v := .agg CX) rfl (by kernel_rfl) (by kernel_rfl) (by kernel_rfl) (fun _ _ _ h => h) (Or.inl ⟨by rfl, fun w hSw => iexec_load_row _ _ rfl rfl (hX2.out.load hSw.1)⟩) (by assumption) ?_
      simp only [Act.put, List.setIfInBounds_toArray, List.set_cons_zero, List.set_cons_succ]
      refine wpAnyH_take (i := 1) (oi := { dst := some 55, op := _, type := _, pos := _, after := _, guard := _ }) (v := ?_) rfl (by kernel_rfl) (by kernel_rfl) (by kernel_rfl) (fun _ _ _ h => h) (Or.inl ⟨by rfl, ?_⟩) (by assumption) ?_
      rotate_left
      · (intro w hSw; clear hSw; go_simp); (try with_reducible rfl)
      simp only [Act.put, List.setIfInBounds_toArray, List.set_cons_zero, List.set_cons_succ]
      refine wpAnyH_take (i := 2) (oi := { dst := some 56, op := _, type := _, pos := _, after := _, guard := _ }) (v := .agg CY) rfl (by kernel_rfl) (by kernel_rfl) (by kernel_rfl) (fun _ _ _ h => h) (Or.inl ⟨by rfl, fun w hSw => iexec_load_row _ _ rfl rfl (hY4.out.load hSw.2)⟩) (by assumption) ?_
      simp only [Act.put, List.setIfInBounds_toArray, List.set_cons_zero, List.set_cons_succ]
      refine wpAnyH_take (i := 3) (oi := { dst := some 57, op := _, type := _, pos := _, after := _, guard := _ }) (v := ?_) rfl (by kernel_rfl) (by kernel_rfl) (by kernel_rfl) (fun _ _ _ h => h) (Or.inl ⟨by rfl, ?_⟩) (by assumption) ?_
      rotate_left
      · (intro w hSw; clear hSw; go_simp); (try with_reducible rfl)
      simp only [Act.put, List.setIfInBounds_toArray, List.set_cons_zero, List.set_cons_succ]
      refine wpAnyH_ready (rs := [4]) (by kernel_rfl) (by simp) ?_
      refine AllReadyH.cons (o := { dst := none, op := _, type := _, pos := _, after := _, guard := _ }) rfl (fun K hK => ?_) AllReadyH.nil
      refine istep_store_row (by rfl) (.tmp 1) (.tmp 54) 32 (by rfl) (by rfl) (by rfl) st5.out ?_
      refine hK.out _ _ ?_ (fun hH4 => ?_)
      · exact ⟨kX5.out, kY5.out⟩
      clear hK K hH0
      simp only [Act.put]
      refine wpAnyH_take (i := 5) (oi := { dst := some 2, op := _, type := _, pos := _, after := _, guard := _ }) (v := ?_) rfl (by kernel_rfl) (by kernel_rfl) (by kernel_rfl) (fun _ _ _ h => h) (Or.inl ⟨by rfl, ?_⟩) (by assumption) ?_
      rotate_left
      · (intro w hSw; clear hSw; go_simp); (try with_reducible rfl)
      simp only [Act.put, List.setIfInBounds_toArray, List.set_cons_zero, List.set_cons_succ]
      refine wpAnyH_ready (rs := [6]) (by kernel_rfl) (by simp) ?_
      refine AllReadyH.cons (o := { dst := none, op := _, type := _, pos := _, after := _, guard := _ }) rfl (fun K hK => ?_) AllReadyH.nil
      refine istep_store_row (by rfl) (.tmp 4) (.tmp 56) 32 (by rfl) (by rfl) (by rfl) st6.out ?_
      refine hK.out _ _ ?_ (fun hH6 => ?_)
      · exact ⟨kX6.out, kY6.out⟩
      clear hK K hH4
      simp only [Act.put]
      refine wpAnyH_take (i := 7) (oi := { dst := some 5, op := _, type := _, pos := _, after := _, guard := _ }) (v := ?_) rfl (by kernel_rfl) (by kernel_rfl) (by kernel_rfl) (fun _ _ _ h => h) (Or.inl ⟨by rfl, ?_⟩) (by assumption) ?_
      rotate_left
      · (intro w hSw; clear hSw; go_simp); (try with_reducible rfl)
      simp only [Act.put, List.setIfInBounds_toArray, List.set_cons_zero, List.set_cons_succ]
      refine wpAnyH_done (by kernel_rfl) ?_ _
      clear st5 st6 kX4 kY4 kX5 kY5 kX6 kY6 hX2 hY4 hX2' hY4' hH6
      go_wp2
      go_loopw [7, 60] (fun vc vi wx => ∃ i : Nat, i ≤ ln ∧ vi = .int .i64 i ∧ vc = .string ⟨(cn ++ Ip.inOne (ly.take i)).toArray⟩ ∧ Hid (Below w6.heap.size w6 wx)) (fun _ vi _ => ln - (intOf vi).toNat)
      case atStart => exact ⟨0, Nat.zero_le _, rfl, by simp [Ip.inOne], Below.refl _ _⟩
      case round =>
        obtain ⟨i, hi, rfl, rfl, bx⟩ := hrel
        by_cases hil : i < ln
        · have hil2 : i < ly.length := by rw [← hln.out]; exact hil
          obtain ⟨b1, o1, rfl, _, _, y1⟩ := (hr6.out.below bx.out).cell hil2
          replace y1 := pc_at y1
          have hz1 := Ip.inOne_len ly i hil2
          have hcs := Ip.inOne_step ly i hil2 cn
          generalize ly[i] = x at y1 hz1 hcs
          obtain ⟨xc, xd⟩ := x
          obtain ⟨c0, c1⟩ := y1
          have em : pcE.m = 2 := rfl
          rw [em] at c0 c1
          dsimp only at c0 c1 hz1 hcs
          have iz0 : (0 : Int) ≤ (i : Int) := by omega
          have iz1 : (i : Int) < (ln : Int) := by omega
          have hw1 : Hid (wrap64 ((i : Int) + 1) = ((i + 1 : Nat) : Int)) := by show wrap64 _ = _; have := hl1.out; unfold wrap64; omega
          obtain ⟨i1, hi1⟩ : ∃ i1, i1 = i + 1 := ⟨_, rfl⟩
          rw [← hi1] at hw1 hcs
          replace hi1 := Rg.hid hi1
          by_cases hc : xc = 1
          · subst hc
            have hz2 : (⟨(cn ++ Ip.inOne (ly.take i)).toArray⟩ : ByteArray).size + xd.size ≤ 100000 := by
              have h1 : (⟨(cn ++ Ip.inOne (ly.take i)).toArray⟩ : ByteArray).size = (cn ++ Ip.inOne (ly.take i)).length := by simp [ByteArray.size]
              have h2 := z8.out
              have h3 := hz1 rfl
              rw [h1, List.length_append]
              omega
            replace hcs := Rg.hid (hcs.1 rfl)
            clear hz1 hil2 em
            generalize (⟨(cn ++ Ip.inOne (ly.take i)).toArray⟩ : ByteArray) = A1 at *
            go_wp2
            go_roundw
            case rel => exact ⟨i1, by have := hi1.out; omega, by rw [hw1.out], by rw [hcs.out], Rg.chain bx.out (Rg.al1 _ _)⟩
            case measure => rw [hw1.out]; have := hi1.out; simp [intOf]; omega
          · have d1 : (xc == 1) = false := by simpa using hc
            replace hcs := Rg.hid (hcs.2 hc)
            clear hz1 hil2 em
            generalize (⟨(cn ++ Ip.inOne (ly.take i)).toArray⟩ : ByteArray) = A1 at *
            go_wp2
            go_roundw
            case rel => exact ⟨i1, by have := hi1.out; omega, by rw [hw1.out], by rw [hcs.out], Rg.chain bx.out (Rg.al1 _ _)⟩
            case measure => rw [hw1.out]; have := hi1.out; simp [intOf]; omega
        · have hie : i = ln := by omega
          have htk : ly.take i = ly := by rw [hie, hln.out]; exact List.take_length
          rw [htk]
          subst hie
          have hI2 : Hid (IAwI Kp BA BB w w4 wr (n + 1)) := by
            refine ⟨CX, CY, kA6.out.below bx.out kA6.out.lt, kB6.out.below bx.out kB6.out.lt, ?_, ?_, Rg.chain bw6.out bx.out, Nat.le_trans hs6.out bx.out.size⟩
            · rw [eN.out]; exact hX6.out.below bx.out
            · rw [eN.out]; exact hY6.out.below bx.out
          clear kA6 kB6 hX6 hY6 hr6 bw6 hs6 bx
          go_wp2
          go_roundw
          case rel => exact ⟨n + 1, by omega, by go_num, by rw [eN.out], by rw [eN.out], by rw [eN.out], hI2⟩
          case measure => simp [intOf]; omega
    · have hn6 : n = 4 := by omega
      subst hn6
      obtain ⟨p1, p4, _⟩ := idh_phase hA kA
      obtain ⟨pa, pc, p9⟩ := idh_win hA kA
      obtain ⟨_, _, y5⟩ := idh_phase hB kB
      obtain ⟨e1, e2, e3, e4, e5⟩ := Ip.aw_end
      rw [e2] at p1
      rw [e3] at p4
      rw [e4] at y5
      rw [e5] at p9
      rw [e1]
      replace bw := Rg.hid bw
      have eh : (⟨Ip.hello.toArray⟩ : ByteArray) = ⟨#[104, 101, 108, 108, 111]⟩ := rfl
      rw [eh]
      clear hI hI0 e1 e2 e3 e4 e5 eh hA hB kA kB hsz
      go_wp2
      go_ret
      exact ⟨rfl, bw.out⟩
end Go.Proofs.Ytlclfkogbfigbaa
