/-
  Layer 15: awake. Layer 15: a drive within a block; the laws' pair in memory. Layer 15: the laws' begun: two ends.
-/
import Derived.Test.YtfiffbohhhehkaaGreatBuMath
import Derived.Test.YtfiffbohhhehkaaGreatBuEndJ
import Derived.Deep.MidRow
import Derived.Deep.RegionHeld3
import Derived.Deep.DeepCutAuto
namespace Go.Proofs.YtfiffbohhhehkaaGreat
open Go.RowKit
theorem list_store {P : Program} {w w' : World} {ops : Array Oper} {rest : List Oper} {a : Act} {Q : Exit → Act → World → Prop} {dst : Option Tmp} {ty : TypeId} {ps : String} {af} (x y : Operand) (t : TypeId) {R : Nat} (hx : a.eval x = .pointer (some ⟨R, 0, none⟩)) {v : Value} (hy : a.eval y = v) (hrun : (storeVar t ⟨R, 0, none⟩ v).run P w = .ok () w') (h : wpList P ops Q rest (a.put dst undef) w') :
    wpList P ops Q ({ dst := dst, op := .store t x y, type := ty, pos := ps, after := af, guard := none } :: rest) a w := Rg.wpList_store_row (by simp [Region.wanted]) x y t rfl hx hy hrun h
theorem list_load {P : Program} {w : World} {ops : Array Oper} {rest : List Oper} {a : Act} {Q : Exit → Act → World → Prop} {dst : Option Tmp} {ty : TypeId} {ps : String} {af} (x : Operand) (t : TypeId) {B : Nat} (hx : a.eval x = .pointer (some ⟨B, 0, none⟩)) {CS : Array Value} (hrun : (loadVar t ⟨B, 0, none⟩).run P w = .ok (.agg CS) w) (h : wpList P ops Q rest (a.put dst (.agg CS)) w) :
    wpList P ops Q ({ dst := dst, op := .load t x, type := ty, pos := ps, after := af, guard := none } :: rest) a w := Rg.wpList_load_row (by simp [Region.wanted]) x t rfl hx hrun h
theorem is_store {P : Program} {w : World} {ops : Array Oper} {rest : List Oper} {a : Act} {Q : Exit → Act → World → Prop} {dst : Option Tmp} {ty : TypeId} {ps : String} {af} {gd} (x y : Operand) (t : TypeId) (h : wpList P ops Q ({ dst := dst, op := .store t x y, type := ty, pos := ps, after := af, guard := gd } :: rest) a w) : wpList P ops Q ({ dst := dst, op := .store t x y, type := ty, pos := ps, after := af, guard := gd } :: rest) a w := h
theorem is_load {P : Program} {w : World} {ops : Array Oper} {rest : List Oper} {a : Act} {Q : Exit → Act → World → Prop} {dst : Option Tmp} {ty : TypeId} {ps : String} {af} {gd} (x : Operand) (t : TypeId) (h : wpList P ops Q ({ dst := dst, op := .load t x, type := ty, pos := ps, after := af, guard := gd } :: rest) a w) : wpList P ops Q ({ dst := dst, op := .load t x, type := ty, pos := ps, after := af, guard := gd } :: rest) a w := h
theorem cats_step (l : List Gp.Pc) (i : Nat) (h : i < l.length) (a : List UInt8) : (⟨(a ++ cats (l.take i)).toArray⟩ : ByteArray) ++ l[i].data = ⟨(a ++ cats (l.take (i + 1))).toArray⟩ := by
  have e : l[i].data = ⟨l[i].data.data.toList.toArray⟩ := rfl
  have e2 : cats (l.take (i + 1)) = cats (l.take i) ++ l[i].data.data.toList := by
    rw [← List.take_append_getElem h]
    simp only [cats, List.flatMap_append, List.flatMap_cons, List.flatMap_nil, List.append_nil]
  rw [e, cat_bytes, e2, List.append_assoc]
theorem cats_len (l : List Gp.Pc) (i : Nat) (h : i < l.length) : (cats (l.take i)).length + l[i].data.size ≤ (cats l).length := by
  have e : cats l = cats (l.take i) ++ (l[i].data.data.toList ++ cats (l.drop (i + 1))) := by
    conv => lhs; rw [← List.take_append_drop i l, List.drop_eq_getElem_cons h]
    simp only [cats, List.flatMap_append, List.flatMap_cons]
  have e2 : l[i].data.size = l[i].data.data.toList.length := (Array.length_toList ..).symm
  rw [e, List.length_append, List.length_append, e2]
  omega
/-- what stands between two rounds -/
def AwI (Kp : Nat → Prop) (BA BB : Nat) (w w4 wr : World) (n : Nat) : Prop := ∃ CA CB, Rg.Bk BA (Array.toList CA) 29 wr ∧ Rg.Bk BB (Array.toList CB) 29 wr ∧ DH Kp wr (Gp.awN n).a CA ∧ DH Kp wr (Gp.awN n).b CB ∧ Below w.heap.size w wr ∧ w4.heap.size ≤ wr.heap.size
theorem dh_phase {Kp : Nat → Prop} {W : World} {d : Gp.Dr} {CS : Array Value} {B : Nat} (h : DH Kp W d CS) (k : Rg.Bk B CS.toList 29 W) : W.cell? ⟨B, 1, none⟩ = some (.int .i64 d.phase) ∧ W.cell? ⟨B, 4, none⟩ = some (.int .i64 d.size) ∧ W.cell? ⟨B, 5, none⟩ = some (.int .i64 d.room) := by
  obtain ⟨p, rfl, _⟩ := h
  exact ⟨k.cell 1, k.cell 4, k.cell 5⟩
set_option maxHeartbeats 4000000 in
set_option maxRecDepth 100000 in
theorem awake_any (w : World) : Calls Tryz.prog 10 #[] w fun e w' => e = .returned (.bool true) ∧ Below w.heap.size w w' := by
  have HB1 := Rg.hid (fun W => hbegin (fun _ => True) 103 true 64 3 W (.inl rfl) (by decide) (by decide) (by decide) (by decide))
  have HB2 := Rg.hid (fun W => hbegin (fun _ => True) 103 false 32 7 W (.inl rfl) (by decide) (by decide) (by decide) (by decide))
  obtain ⟨A0, hA0⟩ : ∃ A0, A0 = Gp.begin_ 103 true 64 3 := ⟨_, rfl⟩
  obtain ⟨B0, hB0⟩ : ∃ B0, B0 = Gp.begin_ 103 false 32 7 := ⟨_, rfl⟩
  obtain ⟨s0, hs0⟩ : ∃ s0, s0 = Gp.opening (Gp.begin_ 103 true 64 3) 0 := ⟨_, rfl⟩
  obtain ⟨t0, ht0⟩ : ∃ t0, t0 = Gp.opening (Gp.begin_ 103 false 32 7) 0 := ⟨_, rfl⟩
  rw [← hs0, ← hA0] at HB1
  rw [← ht0, ← hB0] at HB2
  replace hA0 := Rg.hid hA0
  replace hB0 := Rg.hid hB0
  replace hs0 := Rg.hid hs0
  replace ht0 := Rg.hid ht0
  go_enter Tryz.func10, Tryz.ntmps10
  go_upto_region 2 with (first | (go_at_call 7; refine (HB1.out _).mono ?_; rintro e w1 ⟨CA, rfl, hA1, b1⟩; obtain ⟨w2, st2, k2, b2, hA2⟩ := hA1.out.box) | (with_reducible refine is_store (.tmp 1) (.tmp 18) 29 ?_; refine list_store (.tmp 1) (.tmp 18) 29 rfl rfl st2.out ?_))
  obtain ⟨BA, hBA⟩ : ∃ BA, BA = w1.heap.size := ⟨_, rfl⟩
  rw [← hBA] at k2 ⊢
  have hBAw : Hid (w.heap.size ≤ BA) := by show _ ≤ _; have := b1.out.size; omega
  replace hBA := Rg.hid hBA
  have b12 := Rg.hid (Rg.chain b1.out b2.out)
  clear HB1 hA1 st2 b1 b2
  go_upto_region 3 with (first | (go_at_call 7; refine (HB2.out _).mono ?_; rintro e w3 ⟨CB, rfl, hB3, b3⟩; obtain ⟨w4, st4, k4, b4, hB4⟩ := hB3.out.box) | (with_reducible refine is_store (.tmp 4) (.tmp 23) 29 ?_; refine list_store (.tmp 4) (.tmp 23) 29 rfl rfl st4.out ?_))
  obtain ⟨BB, hBB⟩ : ∃ BB, BB = w3.heap.size := ⟨_, rfl⟩
  rw [← hBB] at k4 ⊢
  have hAB : Hid (BA < BB) := by show _ < _; have := k2.out.lt; have := b3.out.size; omega
  replace hBB := Rg.hid hBB
  have b24 := Rg.hid (Rg.chain b3.out b4.out)
  have b04 := Rg.hid (Rg.chain b12.out b24.out)
  have kA4 := Rg.hid (k2.out.below b24.out k2.out.lt)
  obtain ⟨Kp, hKp⟩ : ∃ Kp : Nat → Prop, Kp = fun b => b ≠ BA ∧ b ≠ BB := ⟨_, rfl⟩
  have hnA : Hid (¬ Kp BA) := by show ¬ _; rw [hKp]; exact fun h => h.1 rfl
  have hnB : Hid (¬ Kp BB) := by show ¬ _; rw [hKp]; exact fun h => h.2 rfl
  have hBl := k4.out.lt
  have hK4 : Hid (∀ W : World, w4.heap.size ≤ W.heap.size → ∀ b, W.heap.size ≤ b → Kp b) := by
    intro W h1 b h2
    rw [hKp]
    have := hAB.out
    constructor <;> omega
  clear hBl
  replace hKp := Rg.hid hKp
  have hA4 : Hid (DH Kp w4 A0 CA) := (hA2.out.below b24.out).any (by rw [hA0.out]; rfl) (by rw [hA0.out]; rfl) (by rw [hA0.out]; rfl) (by rw [hA0.out]; rfl)
  have hB4' : Hid (DH Kp w4 B0 CB) := hB4.out.any (by rw [hB0.out]; rfl) (by rw [hB0.out]; rfl) (by rw [hB0.out]; rfl) (by rw [hB0.out]; rfl)
  have hldA := Rg.hid (hA4.out.load kA4.out)
  have HS := Rg.hid (hsend hA4.out (by rw [hA0.out]; exact Gp.begin_right true (.inl rfl) (by decide) (by decide) (by decide) (by decide)) ⟨0, ⟨Gp.hello.toArray⟩⟩ (by rw [hA0.out]; exact Nat.zero_le _) (hK4.out w4 (Nat.le_refl _)))
  obtain ⟨r1, hr1⟩ : ∃ r1, r1 = Gp.send A0 ⟨0, ⟨Gp.hello.toArray⟩⟩ := ⟨_, rfl⟩
  rw [← hr1] at HS
  replace hr1 := Rg.hid hr1
  replace HS : Hid (Calls Tryz.prog 17 #[.agg CA, .agg #[.int .i64 0, .string ⟨#[104, 101, 108, 108, 111]⟩]] w4 fun e w' => HPost Kp w4 r1 e w') := HS
  clear HB2 hB3 st4 b3 b4 hA2 hB4 k2 b12 b24
  go_upto_region 6 with (first | (with_reducible refine is_load (.tmp 1) 29 ?_; refine list_load (.tmp 1) 29 rfl hldA.out ?_) | (go_at_call 17; refine HS.out.mono ?_; rintro e w5 ⟨CA5, rfl, hA5, b5⟩; obtain ⟨w6, st6, kA6, o6⟩ := hA5.out.over hA4.out (kA4.out.below b5.out kA4.out.lt)) | (with_reducible refine is_store (.tmp 1) (.tmp 36) 29 ?_; refine list_store (.tmp 1) (.tmp 36) 29 rfl rfl st6.out ?_))
  have hI0 : Hid (AwI Kp BA BB w w4 w6 0) := by
    refine ⟨CA5, CB, kA6.out, (k4.out.below b5.out k4.out.lt).same (o6.out.block BB (by have := hAB.out; omega)), ?_, ?_, ?_, ?_⟩
    · have := hA5.out.only hnA.out o6.out
      rw [hr1.out, hA0.out] at this
      exact this
    · have := (hB4'.out.below b5.out).only hnA.out o6.out
      rw [hB0.out] at this
      exact this
    · exact (Rg.chain b04.out b5.out).trans (o6.out.bel hBAw.out)
    · rw [o6.out.size]; exact b5.out.size
  clear HS hldA hA4 hB4' kA4 k4 hA5 b5 st6 kA6 o6
  go_wp2
  go_loopw [2, 5, 7, 38] (fun vs vt vc vi wr => ∃ n : Nat, n ≤ 6 ∧ vi = .int .i64 n ∧ vs = .string ⟨(Gp.awN n).s.toArray⟩ ∧ vt = .string ⟨(Gp.awN n).t.toArray⟩ ∧ vc = .string ⟨(Gp.awN n).c.toArray⟩ ∧ Hid (AwI Kp BA BB w w4 wr n)) (fun _ _ _ vi _ => 6 - (intOf vi).toNat)
  case atStart => exact ⟨0, by omega, rfl, by rw [hs0.out]; rfl, by rw [ht0.out]; rfl, rfl, hI0⟩
  case round =>
    obtain ⟨n, hn, rfl, rfl, rfl, rfl, hI⟩ := hrel
    obtain ⟨CA, CB, kA, kB, hA, hB, bw, hsz⟩ := hI.out
    by_cases hlt : n < 6
    · obtain ⟨z1, z2, z3, z4, z5, z6, z7⟩ := Gp.aw_small n (by omega)
      have z8 := (Gp.aw_small (n + 1) (by omega)).2.2.2.2.2.2
      have hR := Gp.aw_right n (by omega)
      have HF1 := Rg.hid (hfeed hA hR.1 (Gp.awN n).t (by omega) (by omega) (hK4.out wr hsz))
      have HF2 : Hid (∀ W, Below wr.heap.size wr W → Calls Tryz.prog 12 #[.agg CB, .string ⟨(Gp.awN n).s.toArray⟩] W fun e w' => HFPost Kp W (Gp.feed (Gp.awN n).b (Gp.awN n).s) e w') := fun W hW => hfeed (hB.below hW) hR.2 (Gp.awN n).s (by omega) (by omega) (hK4.out W (Nat.le_trans hsz hW.size))
      obtain ⟨q1, hq1⟩ : ∃ q, q = Gp.feed (Gp.awN n).a (Gp.awN n).t := ⟨_, rfl⟩
      obtain ⟨q2, hq2⟩ : ∃ q, q = Gp.feed (Gp.awN n).b (Gp.awN n).s := ⟨_, rfl⟩
      rw [← hq1] at HF1
      rw [← hq2] at HF2
      have eN : Hid (Gp.awN (n + 1) = ⟨q1.1, q1.2.1, q2.1, q2.2.1, (Gp.awN n).c ++ q2.2.2⟩) := by show _ = _; rw [hq1, hq2]; rfl
      replace z8 : ((Gp.awN n).c ++ q2.2.2).length ≤ 1000 := by rw [eN.out] at z8; exact z8
      rw [List.length_append] at z8
      replace z8 := Rg.hid z8
      clear hq1 hq2 z1 z2 z3 z4 z5 z6 z7 hR
      have hn6 : decide ((n : Int) < 6) = true := by simp; omega
      generalize (Gp.awN n).s = sn at *
      generalize (Gp.awN n).t = tn at *
      generalize (Gp.awN n).c = cn at *
      replace kA := Rg.hid kA
      replace kB := Rg.hid kB
      replace hA := Rg.hid hA
      replace hB := Rg.hid hB
      replace bw := Rg.hid bw
      replace hsz := Rg.hid hsz
      have hldA := Rg.hid (hA.out.load kA.out)
      clear hI hI0
      go_upto_region 10 with (first | (with_reducible refine is_load (.tmp 1) 29 ?_; refine list_load (.tmp 1) 29 rfl hldA.out ?_) | (go_at_call 12; refine HF1.out.mono ?_; rintro e w1 ⟨CX, ax, lx, rfl, hX1, b1, _⟩; obtain ⟨w2, st2, kX2, b2, hX2⟩ := hX1.out.box) | (with_reducible refine is_store (.tmp 8) (.tmp 44) 29 ?_; refine list_store (.tmp 8) (.tmp 44) 29 rfl rfl st2.out ?_))
      obtain ⟨B8, hB8⟩ : ∃ B8, B8 = w1.heap.size := ⟨_, rfl⟩
      rw [← hB8] at kX2 ⊢
      replace hB8 := Rg.hid hB8
      have b12 := Rg.hid (Rg.chain b1.out b2.out)
      have kA2 := Rg.hid (kA.out.below b12.out kA.out.lt)
      have kB2 := Rg.hid (kB.out.below b12.out kB.out.lt)
      have hldB := Rg.hid (hB.out.load kB2.out)
      have HF3 := Rg.hid (HF2.out w2 b12.out)
      clear HF1 HF2 hldA st2 hX1
      go_upto_region 11 with (first | (with_reducible refine is_load (.tmp 4) 29 ?_; refine list_load (.tmp 4) 29 rfl hldB.out ?_) | (go_at_call 12; refine HF3.out.mono ?_; rintro e w3 ⟨CY, ay, ly, rfl, hY3, b3, hl⟩; obtain ⟨w4', st4, kY4, b4, hY4⟩ := hY3.out.box) | (with_reducible refine is_store (.tmp 11) (.tmp 51) 29 ?_; refine list_store (.tmp 11) (.tmp 51) 29 rfl rfl st4.out ?_))
      obtain ⟨B11, hB11⟩ : ∃ B11, B11 = w3.heap.size := ⟨_, rfl⟩
      rw [← hB11] at kY4 ⊢
      replace hB11 := Rg.hid hB11
      have b34 := Rg.hid (Rg.chain b3.out b4.out)
      have kX4 := Rg.hid (kX2.out.below b34.out kX2.out.lt)
      have kA4 := Rg.hid (kA2.out.below b34.out kA2.out.lt)
      have kB4 := Rg.hid (kB2.out.below b34.out kB2.out.lt)
      have hX4 := Rg.hid (hX2.out.below b34.out)
      have n8A : B8 ≠ BA := by have := hB8.out; have := kA.out.lt; have := b1.out.size; omega
      have n8B : B8 ≠ BB := by have := hB8.out; have := kB.out.lt; have := b1.out.size; omega
      have n11A : B11 ≠ BA := by have := hB11.out; have := kA2.out.lt; have := b3.out.size; omega
      have n11B : B11 ≠ BB := by have := hB11.out; have := kB2.out.lt; have := b3.out.size; omega
      have bw4 := Rg.hid (Rg.chain (Rg.chain bw.out b12.out) b34.out)
      have hr4 := Rg.hid (hl.out.2.2.1.below b4.out)
      have hkl := Rg.hid hl.out.2.2.2
      have hcl0 := Rg.hid hl.out.2.1
      obtain ⟨ln, hln⟩ : ∃ ln, ln = ly.length := ⟨_, rfl⟩
      rw [← hln]
      have hl1 : Hid (ln ≤ 1) := by show _ ≤ _; rw [hln]; exact hl.out.1
      replace hln := Rg.hid hln
      obtain ⟨w5, st5, kA5, o5⟩ := DH.over (W := w4'.drew) (hX4.out.below (Below.refl _ _).drew) hA.out (kA4.out.drew)
      have nAB : BB ≠ BA := by have := hAB.out; omega
      have kX5 := Rg.hid (kX4.out.drew.same (o5.out.block B8 n8A))
      have kY5 := Rg.hid (kY4.out.drew.same (o5.out.block B11 n11A))
      have kB5 := kB4.out.drew.same (o5.out.block BB nAB)
      have hY5 := (hY4.out.below (Below.refl _ _).drew).only hnA.out o5.out
      obtain ⟨w6, st6, kB6, o6⟩ := DH.over (W := w5) hY5 hB.out kB5
      have kX6 := Rg.hid (kX5.out.same (o6.out.block B8 n8B))
      have kY6 := Rg.hid (kY5.out.same (o6.out.block B11 n11B))
      have kA6 := Rg.hid (kA5.out.same (o6.out.block BA (fun e => nAB e.symm)))
      have hX6 := Rg.hid (((hX4.out.below (Below.refl _ _).drew).only hnA.out o5.out).only hnB.out o6.out)
      have hY6 := Rg.hid (hY5.only hnB.out o6.out)
      have hr6 := Rg.hid (erow_only (erow_only (hr4.out.below (Below.refl _ _).drew) hkl.out hnA.out o5.out) hkl.out hnB.out o6.out)
      have bw6 := Rg.hid ((bw4.out.drew.trans (o5.out.bel hBAw.out)).trans (o6.out.bel (by have := hAB.out; have := hBAw.out; omega)))
      have hs6 : Hid (w4.heap.size ≤ w6.heap.size) := by
        show _ ≤ _
        rw [o6.out.size, o5.out.size]
        exact Nat.le_trans hsz.out (Nat.le_trans b12.out.size b34.out.size)
      have hX2' := hX2
      have hY4' := hY4
      clear kB5 hY5 n8A n8B n11A n11B nAB hr4 hkl bw4 kA4 kB4 hX4 kA2 kB2 hA hB kA kB kA5 o5 o6 b12 b34 HF3 hldB b1 b2 b3 b4 bw hsz hY3 hl
      refine wp_region_held_drew (S := fun (w' : World) => Rg.Bk B8 CX.toList 29 w' ∧ Rg.Bk B11 CY.toList 29 w') (by kernel_rfl) ?_ (fun hH0 => ?_)
      · exact ⟨kX4.out, kY4.out⟩
      refine wpAnyH_take (i := 0) (oi := { dst := some 54, op := _, type := _, pos := _, after := _, guard := _ }) (v := .agg CX) rfl (by kernel_rfl) (by kernel_rfl) (by kernel_rfl) (fun _ _ _ h => h) (Or.inl ⟨by rfl, fun w hSw => exec_load_row _ _ rfl rfl (hX2.out.load hSw.1)⟩) (by assumption) ?_
      simp only [Act.put, List.setIfInBounds_toArray, List.set_cons_zero, List.set_cons_succ]
      refine wpAnyH_take (i := 1) (oi := { dst := some 55, op := _, type := _, pos := _, after := _, guard := _ }) (v := ?_) rfl (by kernel_rfl) (by kernel_rfl) (by kernel_rfl) (fun _ _ _ h => h) (Or.inl ⟨by rfl, ?_⟩) (by assumption) ?_
      rotate_left
      · (intro w hSw; clear hSw; go_simp); (try with_reducible rfl)
      simp only [Act.put, List.setIfInBounds_toArray, List.set_cons_zero, List.set_cons_succ]
      refine wpAnyH_take (i := 2) (oi := { dst := some 56, op := _, type := _, pos := _, after := _, guard := _ }) (v := .agg CY) rfl (by kernel_rfl) (by kernel_rfl) (by kernel_rfl) (fun _ _ _ h => h) (Or.inl ⟨by rfl, fun w hSw => exec_load_row _ _ rfl rfl (hY4.out.load hSw.2)⟩) (by assumption) ?_
      simp only [Act.put, List.setIfInBounds_toArray, List.set_cons_zero, List.set_cons_succ]
      refine wpAnyH_take (i := 3) (oi := { dst := some 57, op := _, type := _, pos := _, after := _, guard := _ }) (v := ?_) rfl (by kernel_rfl) (by kernel_rfl) (by kernel_rfl) (fun _ _ _ h => h) (Or.inl ⟨by rfl, ?_⟩) (by assumption) ?_
      rotate_left
      · (intro w hSw; clear hSw; go_simp); (try with_reducible rfl)
      simp only [Act.put, List.setIfInBounds_toArray, List.set_cons_zero, List.set_cons_succ]
      refine wpAnyH_ready (rs := [4]) (by kernel_rfl) (by simp) ?_
      refine AllReadyH.cons (o := { dst := none, op := _, type := _, pos := _, after := _, guard := _ }) rfl (fun K hK => ?_) AllReadyH.nil
      refine step_store_row (by rfl) (.tmp 1) (.tmp 54) 29 (by rfl) (by rfl) (by rfl) st5.out ?_
      refine hK.out _ _ ?_ (fun hH4 => ?_)
      · exact ⟨kX5.out, kY5.out⟩
      clear hK K hH0
      simp only [Act.put]
      refine wpAnyH_take (i := 5) (oi := { dst := some 2, op := _, type := _, pos := _, after := _, guard := _ }) (v := ?_) rfl (by kernel_rfl) (by kernel_rfl) (by kernel_rfl) (fun _ _ _ h => h) (Or.inl ⟨by rfl, ?_⟩) (by assumption) ?_
      rotate_left
      · (intro w hSw; clear hSw; go_simp); (try with_reducible rfl)
      simp only [Act.put, List.setIfInBounds_toArray, List.set_cons_zero, List.set_cons_succ]
      refine wpAnyH_ready (rs := [6]) (by kernel_rfl) (by simp) ?_
      refine AllReadyH.cons (o := { dst := none, op := _, type := _, pos := _, after := _, guard := _ }) rfl (fun K hK => ?_) AllReadyH.nil
      refine step_store_row (by rfl) (.tmp 4) (.tmp 56) 29 (by rfl) (by rfl) (by rfl) st6.out ?_
      refine hK.out _ _ ?_ (fun hH6 => ?_)
      · exact ⟨kX6.out, kY6.out⟩
      clear hK K hH4
      simp only [Act.put]
      refine wpAnyH_take (i := 7) (oi := { dst := some 5, op := _, type := _, pos := _, after := _, guard := _ }) (v := ?_) rfl (by kernel_rfl) (by kernel_rfl) (by kernel_rfl) (fun _ _ _ h => h) (Or.inl ⟨by rfl, ?_⟩) (by assumption) ?_
      rotate_left
      · (intro w hSw; clear hSw; go_simp); (try with_reducible rfl)
      simp only [Act.put, List.setIfInBounds_toArray, List.set_cons_zero, List.set_cons_succ]
      refine wpAnyH_done (by kernel_rfl) ?_ _
      clear st5 st6 kX4 kY4 kX5 kY5 kX6 kY6 hX2 hY4 hX2' hY4' hH6
      go_wp2
      go_loopw [7, 60] (fun vc vi wx => ∃ i : Nat, i ≤ ln ∧ vi = .int .i64 i ∧ vc = .string ⟨(cn ++ cats (ly.take i)).toArray⟩ ∧ Hid (Below w6.heap.size w6 wx)) (fun _ vi _ => ln - (intOf vi).toNat)
      case atStart => exact ⟨0, Nat.zero_le _, rfl, by simp [cats], Below.refl _ _⟩
      case round =>
        obtain ⟨i, hi, rfl, rfl, bx⟩ := hrel
        by_cases hil : i < ln
        · have hil2 : i < ly.length := by rw [← hln.out]; exact hil
          obtain ⟨b1, o1, rfl, _, _, y1⟩ := (hr6.out.below bx.out).cell hil2
          replace y1 := pc_at y1
          have hz1 := cats_len ly i hil2
          have hcs := cats_step ly i hil2 cn
          generalize ly[i] = x at y1 hz1 hcs
          obtain ⟨c0, c1⟩ := y1
          have em : pcE.m = 2 := rfl
          rw [em] at c0 c1
          have i1 : i ≤ 1 := by have := hl1.out; omega
          have iz0 : (0 : Int) ≤ (i : Int) := by omega
          have iz1 : (i : Int) < (ln : Int) := by omega
          have hz2 : (⟨(cn ++ cats (ly.take i)).toArray⟩ : ByteArray).size + x.data.size ≤ 100000 := by
            have h1 : (⟨(cn ++ cats (ly.take i)).toArray⟩ : ByteArray).size = (cn ++ cats (ly.take i)).length := by simp [ByteArray.size]
            have h2 := z8.out
            rw [h1, List.length_append]
            rw [← hcl0.out] at h2
            omega
          replace hcs := Rg.hid hcs
          clear hz1 hil2 em
          generalize (⟨(cn ++ cats (ly.take i)).toArray⟩ : ByteArray) = A1 at *
          go_wp2
          go_roundw
          case rel => exact ⟨i + 1, by omega, by go_num, by rw [hcs.out], Rg.chain bx.out (Rg.al1 _ _)⟩
          case measure => simp [intOf]; omega
        · have hie : i = ln := by omega
          have htk : ly.take i = ly := by rw [hie, hln.out]; exact List.take_length
          rw [htk, hcl0.out]
          subst hie
          have hI2 : Hid (AwI Kp BA BB w w4 wr (n + 1)) := by
            refine ⟨CX, CY, kA6.out.below bx.out kA6.out.lt, kB6.out.below bx.out kB6.out.lt, ?_, ?_, Rg.chain bw6.out bx.out, Nat.le_trans hs6.out bx.out.size⟩
            · rw [eN.out]; exact hX6.out.below bx.out
            · rw [eN.out]; exact hY6.out.below bx.out
          clear kA6 kB6 hX6 hY6 hr6 bw6 hs6 bx
          go_wp2
          go_roundw
          case rel => exact ⟨n + 1, by omega, by go_num, by rw [eN.out], by rw [eN.out], by rw [eN.out], hI2⟩
          case measure => simp [intOf]; omega
    · have hn6 : n = 6 := by omega
      subst hn6
      obtain ⟨p1, p4, _⟩ := dh_phase hA kA
      obtain ⟨y1, _, y5⟩ := dh_phase hB kB
      obtain ⟨e1, e2, e3, e4, e5⟩ := Gp.aw_end
      rw [e2] at p1
      rw [e4] at p4
      rw [e3] at y1
      rw [e5] at y5
      rw [e1]
      replace bw := Rg.hid bw
      have eh : (⟨Gp.hello.toArray⟩ : ByteArray) = ⟨#[104, 101, 108, 108, 111]⟩ := rfl
      rw [eh]
      clear hI hI0 e1 e2 e3 e4 e5 eh hA hB kA kB hsz
      go_wp2
      go_ret
      exact ⟨rfl, bw.out⟩
end Go.Proofs.YtfiffbohhhehkaaGreat

namespace Go.Proofs.YtfiffbohhhehkaaGreat
open Go.RowKit
namespace Rg
theorem Bk.setCells {b : Nat} {ty : TypeId} : ∀ (V X Y Z : List Value) (W : World), Bk b (X ++ (Y ++ Z)) ty W → Y.length = V.length → Bk b (X ++ (V ++ Z)) ty (W.setCells b X.length V) ∧ Only b W (W.setCells b X.length V)
  | [], X, Y, Z, W, h, hl => by
    have hy : Y = [] := List.length_eq_zero_iff.1 hl
    subst hy
    exact ⟨h, Only.refl _ _⟩
  | v :: r, X, [], Z, W, h, hl => by simp at hl
  | v :: r, X, y :: s, Z, W, h, hl => by
    have h1 := h.set X.length v
    have e : (X ++ (y :: s ++ Z)).set X.length v = (X ++ [v]) ++ (s ++ Z) := by simp
    rw [e] at h1
    obtain ⟨k1, k2⟩ := Bk.setCells r (X ++ [v]) s Z _ h1 (by simpa using hl)
    have el : (X ++ [v]).length = X.length + 1 := by simp
    rw [el] at k1 k2
    refine ⟨?_, (Only.setCell W b X.length v).trans k2⟩
    have e2 : X ++ (v :: r ++ Z) = X ++ [v] ++ (r ++ Z) := by simp
    rw [e2]
    exact k1
theorem Bk.range {b : Nat} {ty : TypeId} {X Y Z : List Value} {W : World} (h : Bk b (X ++ (Y ++ Z)) ty W) : W.rangeAt b X.length Y := fun j v hv => by
  have hj : j < Y.length := (List.getElem?_eq_some_iff.1 hv).1
  rw [h.cell, List.getElem?_append_right (by omega), Nat.add_sub_cancel_left, List.getElem?_append_left hj]
  exact hv
theorem Bk.there {b : Nat} {ty : TypeId} {X Y Z : List Value} {W : World} (h : Bk b (X ++ (Y ++ Z)) ty W) : W.there b X.length Y.length := fun j hj => by
  refine ⟨?_, h.thaw _⟩
  rw [h.range j _ (List.getElem?_eq_getElem hj)]
  rfl
end Rg
/-- a drive within a block is read -/
theorem DH.mload {Kp : Nat → Prop} {W W2 : World} {B : Nat} {T : TypeId} {d : Gp.Dr} {CS : Array Value} {X Z : List Value} (h : DH Kp W d CS) (k : Rg.Bk B (X ++ (CS.toList ++ Z)) T W2) : (loadVar 29 ⟨B, X.length, none⟩).run Tryz.prog W2 = .ok (.agg CS) W2 := by
  have := run_loadVar_mid (P := Tryz.prog) W2 B X.length 29 CS.toList _ k.range Tryz.underlying29 rfl (by rw [h.info, Array.length_toList])
  simpa using this
/-- a drive is laid within a block -/
theorem DH.mover {Kp : Nat → Prop} {W : World} {B : Nat} {T : TypeId} {d : Gp.Dr} {CS : Array Value} {X Y Z : List Value} (h : DH Kp W d CS) (hY : Y.length = 18) (k : Rg.Bk B (X ++ (Y ++ Z)) T W) : ∃ W', Hid ((storeVar 29 ⟨B, X.length, none⟩ (.agg CS)).run Tryz.prog W = .ok () W') ∧ Hid (Rg.Bk B (X ++ (CS.toList ++ Z)) T W') ∧ Hid (Rg.Only B W W') := by
  have hs := h.size
  have e : CS.toList.length = 18 := by rw [Array.length_toList, hs]
  have ht := k.there
  rw [hY, ← hs] at ht
  obtain ⟨k1, k2⟩ := Rg.Bk.setCells CS.toList X Y Z W k (by rw [hY, e])
  exact ⟨_, run_storeVar_mid (P := Tryz.prog) W B X.length 29 CS ht h.info h.one, k1, k2⟩
theorem list_mstore {P : Program} {w w' : World} {ops : Array Oper} {rest : List Oper} {a : Act} {Q : Exit → Act → World → Prop} {dst : Option Tmp} {ty : TypeId} {ps : String} {af} (x y : Operand) (t : TypeId) {R o : Nat} (hx : a.eval x = .pointer (some ⟨R, o, none⟩)) {v : Value} (hy : a.eval y = v) (hrun : (storeVar t ⟨R, o, none⟩ v).run P w = .ok () w') (h : wpList P ops Q rest (a.put dst undef) w') :
    wpList P ops Q ({ dst := dst, op := .store t x y, type := ty, pos := ps, after := af, guard := none } :: rest) a w := by
  refine wpList_step fun K hK => ?_
  rw [if_pos (by simp [Region.wanted])]
  unfold Oper.wp
  simp [execOp, hx, hy, Instr.storeAt, Instr.sureAddr, hrun, Result.andThen, Oper.upon]
  exact hK _ _ h
theorem list_mload {P : Program} {w : World} {ops : Array Oper} {rest : List Oper} {a : Act} {Q : Exit → Act → World → Prop} {dst : Option Tmp} {ty : TypeId} {ps : String} {af} (x : Operand) (t : TypeId) {B o : Nat} (hx : a.eval x = .pointer (some ⟨B, o, none⟩)) {v : Value} (hrun : (loadVar t ⟨B, o, none⟩).run P w = .ok v w) (h : wpList P ops Q rest (a.put dst v) w) :
    wpList P ops Q ({ dst := dst, op := .load t x, type := ty, pos := ps, after := af, guard := none } :: rest) a w := by
  refine wpList_step fun K hK => ?_
  rw [if_pos (by simp [Region.wanted])]
  unfold Oper.wp
  simp [execOp, hx, Instr.loadAt, Instr.sureAddr, hrun, Result.andThen, Oper.upon]
  exact hK _ _ h
/-- the cells of a pair: two drives, and the rest -/
def PC (CA CB : Array Value) (R : List Value) : List Value := CA.toList ++ (CB.toList ++ R)
/-- a pair in memory -/
structure PB (Kp : Nat → Prop) (B : Nat) (W : World) (a b : Gp.Dr) (CA CB : Array Value) (R : List Value) : Prop where
  bk : Rg.Bk B (PC CA CB R) 52 W
  ha : DH Kp W a CA
  hb : DH Kp W b CB
  no : ¬ Kp B
theorem PB.below {Kp : Nat → Prop} {B : Nat} {W W' : World} {a b : Gp.Dr} {CA CB : Array Value} {R : List Value} (h : PB Kp B W a b CA CB R) (hb : Below W.heap.size W W') : PB Kp B W' a b CA CB R := ⟨h.bk.below hb h.bk.lt, h.ha.below hb, h.hb.below hb, h.no⟩
theorem PB.cell {Kp : Nat → Prop} {B : Nat} {W : World} {a b : Gp.Dr} {CA CB : Array Value} {R : List Value} (h : PB Kp B W a b CA CB R) (i : Nat) : W.cell? ⟨B, 36 + i, none⟩ = R[i]? := by
  rw [h.bk.cell]
  unfold PC
  rw [List.getElem?_append_right (by rw [Array.length_toList, h.ha.size]; omega), List.getElem?_append_right (by rw [Array.length_toList, Array.length_toList, h.ha.size, h.hb.size]; omega), Array.length_toList, Array.length_toList, h.ha.size, h.hb.size]
  congr 1
  omega
theorem PB.set {Kp : Nat → Prop} {B : Nat} {W : World} {a b : Gp.Dr} {CA CB : Array Value} {R : List Value} (h : PB Kp B W a b CA CB R) (i : Nat) (v : Value) : PB Kp B (W.setCell ⟨B, 36 + i, none⟩ v) a b CA CB (R.set i v) := by
  have o := Rg.Only.setCell W B (36 + i) v
  have e : (PC CA CB R).set (36 + i) v = PC CA CB (R.set i v) := by
    unfold PC
    rw [List.set_append_right _ _ (by rw [Array.length_toList, h.ha.size]; omega), List.set_append_right _ _ (by rw [Array.length_toList, Array.length_toList, h.ha.size, h.hb.size]; omega), Array.length_toList, Array.length_toList, h.ha.size, h.hb.size]
    congr 3
    omega
  have k := h.bk.set (36 + i) v
  rw [e] at k
  exact ⟨k, h.ha.only h.no o, h.hb.only h.no o, h.no⟩
theorem PB.loadA {Kp : Nat → Prop} {B : Nat} {W : World} {a b : Gp.Dr} {CA CB : Array Value} {R : List Value} (h : PB Kp B W a b CA CB R) : (loadVar 29 ⟨B, 0, none⟩).run Tryz.prog W = .ok (.agg CA) W := DH.mload (X := []) h.ha h.bk
theorem PB.loadB {Kp : Nat → Prop} {B : Nat} {W : World} {a b : Gp.Dr} {CA CB : Array Value} {R : List Value} (h : PB Kp B W a b CA CB R) : (loadVar 29 ⟨B, 18, none⟩).run Tryz.prog W = .ok (.agg CB) W := by
  have := DH.mload (X := CA.toList) h.hb h.bk
  rw [Array.length_toList, h.ha.size] at this
  exact this
theorem PB.storeA {Kp : Nat → Prop} {B : Nat} {W : World} {a b d : Gp.Dr} {CA CB CS : Array Value} {R : List Value} (h : PB Kp B W a b CA CB R) (hd : DH Kp W d CS) : ∃ W', Hid ((storeVar 29 ⟨B, 0, none⟩ (.agg CS)).run Tryz.prog W = .ok () W') ∧ Hid (PB Kp B W' d b CS CB R) ∧ Hid (Rg.Only B W W') := by
  obtain ⟨W', h1, h2, h3⟩ := DH.mover (X := []) hd (by rw [Array.length_toList, h.ha.size]) h.bk
  exact ⟨W', h1, ⟨h2.out, hd.only h.no h3.out, h.hb.only h.no h3.out, h.no⟩, h3⟩
theorem PB.storeB {Kp : Nat → Prop} {B : Nat} {W : World} {a b d : Gp.Dr} {CA CB CS : Array Value} {R : List Value} (h : PB Kp B W a b CA CB R) (hd : DH Kp W d CS) : ∃ W', Hid ((storeVar 29 ⟨B, 18, none⟩ (.agg CS)).run Tryz.prog W = .ok () W') ∧ Hid (PB Kp B W' a d CA CS R) ∧ Hid (Rg.Only B W W') := by
  obtain ⟨W', h1, h2, h3⟩ := DH.mover (X := CA.toList) hd (by rw [Array.length_toList, h.hb.size]) h.bk
  rw [Array.length_toList, h.ha.size] at h1
  exact ⟨W', h1, ⟨h2.out, h.ha.only h.no h3.out, hd.only h.no h3.out, h.no⟩, h3⟩
end Go.Proofs.YtfiffbohhhehkaaGreat

namespace Go.Proofs.YtfiffbohhhehkaaGreat
open Go.RowKit
def zD : Gp.Dr := ⟨0, 0, false, 0, 0, 0, Wn.zero, 0, [], [], 0, [], 0, 0, []⟩
theorem zDH (Kp : Nat → Prop) (W : World) : DH Kp W zD #[.int .i64 0, .int .i64 0, .bool false, .int .i64 0, .int .i64 0, .int .i64 0, .int .i64 0, .int .i64 0, .int .i64 0, .slice none 0 0, .int .i64 0, .slice none 0 0, .string ⟨#[]⟩, .int .i64 0, .slice none 0 0, .int .i64 0, .int .i64 0, .slice none 0 0] := ⟨⟨none, 0, none, 0, none, 0, none, 0⟩, rfl, ⟨.inl rfl, .inl rfl, .inl rfl, .inl rfl⟩, Nat.le_refl _, Nat.zero_le _, .inl rfl, .inl rfl, .inl rfl, .inl rfl⟩
/-- the rest of a pair's cells: what is under way; nothing was sent, came, or was lost -/
def bR (w0 w1 : List UInt8) : List Value := [.string ⟨w0.toArray⟩, .string ⟨w1.toArray⟩, .string ⟨#[]⟩, .string ⟨#[]⟩, .string ⟨#[]⟩, .string ⟨#[]⟩, .int .i64 0, .int .i64 0, .slice none 0 0, .slice none 0 0, .bool false]
theorem info_pair : (Tryz.prog.info? 52).map (·.size) = some 47 := by kernel_rfl
/-- what stands ahead of begun's rounds -/
structure Bg (Kp : Nat → Prop) (B6 B8 BS : Nat) (w wr : World) (a b : Gp.Dr) (w0 w1 : List UInt8) : Prop where
  pb : ∃ CA CB, PB Kp B8 wr a b CA CB (bR w0 w1)
  k6 : Rg.Bk B6 [.int .i64 0, .int .i64 0, .bool false, .int .i64 0, .int .i64 0, .int .i64 0, .int .i64 0, .int .i64 0, .int .i64 0, .slice none 0 0, .int .i64 0, .slice none 0 0, .string ⟨#[]⟩, .int .i64 0, .slice none 0 0, .int .i64 0, .int .i64 0, .slice none 0 0, .int .i64 0, .int .i64 0, .bool false, .int .i64 0, .int .i64 0, .int .i64 0, .int .i64 0, .int .i64 0, .int .i64 0, .slice none 0 0, .int .i64 0, .slice none 0 0, .string ⟨#[]⟩, .int .i64 0, .slice none 0 0, .int .i64 0, .int .i64 0, .slice none 0 0, .string ⟨#[]⟩, .string ⟨#[]⟩, .string ⟨#[]⟩, .string ⟨#[]⟩, .string ⟨#[]⟩, .string ⟨#[]⟩, .int .i64 0, .int .i64 0, .slice none 0 0, .slice none 0 0, .bool false] 52 wr
  kS : Rg.Bk BS [.int .i64 32, .int .i64 64, .int .i64 128, .int .i64 512, .int .i64 4096] 3 wr
  bw : Below w.heap.size w wr
theorem Bg.start (w : World) : Bg (fun b => b ≠ w.heap.size + 1) w.heap.size (w.heap.size + 1) (w.heap.size + 1 + 1) w (((w.alloc (.cells #[.int .i64 0, .int .i64 0, .bool false, .int .i64 0, .int .i64 0, .int .i64 0, .int .i64 0, .int .i64 0, .int .i64 0, .slice none 0 0, .int .i64 0, .slice none 0 0, .string ⟨#[]⟩, .int .i64 0, .slice none 0 0, .int .i64 0, .int .i64 0, .slice none 0 0, .int .i64 0, .int .i64 0, .bool false, .int .i64 0, .int .i64 0, .int .i64 0, .int .i64 0, .int .i64 0, .int .i64 0, .slice none 0 0, .int .i64 0, .slice none 0 0, .string ⟨#[]⟩, .int .i64 0, .slice none 0 0, .int .i64 0, .int .i64 0, .slice none 0 0, .string ⟨#[]⟩, .string ⟨#[]⟩, .string ⟨#[]⟩, .string ⟨#[]⟩, .string ⟨#[]⟩, .string ⟨#[]⟩, .int .i64 0, .int .i64 0, .slice none 0 0, .slice none 0 0, .bool false] 52)).alloc (.cells #[.int .i64 0, .int .i64 0, .bool false, .int .i64 0, .int .i64 0, .int .i64 0, .int .i64 0, .int .i64 0, .int .i64 0, .slice none 0 0, .int .i64 0, .slice none 0 0, .string ⟨#[]⟩, .int .i64 0, .slice none 0 0, .int .i64 0, .int .i64 0, .slice none 0 0, .int .i64 0, .int .i64 0, .bool false, .int .i64 0, .int .i64 0, .int .i64 0, .int .i64 0, .int .i64 0, .int .i64 0, .slice none 0 0, .int .i64 0, .slice none 0 0, .string ⟨#[]⟩, .int .i64 0, .slice none 0 0, .int .i64 0, .int .i64 0, .slice none 0 0, .string ⟨#[]⟩, .string ⟨#[]⟩, .string ⟨#[]⟩, .string ⟨#[]⟩, .string ⟨#[]⟩, .string ⟨#[]⟩, .int .i64 0, .int .i64 0, .slice none 0 0, .slice none 0 0, .bool false] 52)).alloc (.cells #[.int .i64 32, .int .i64 64, .int .i64 128, .int .i64 512, .int .i64 4096] 3)) zD zD [] [] := by
  refine ⟨⟨#[.int .i64 0, .int .i64 0, .bool false, .int .i64 0, .int .i64 0, .int .i64 0, .int .i64 0, .int .i64 0, .int .i64 0, .slice none 0 0, .int .i64 0, .slice none 0 0, .string ⟨#[]⟩, .int .i64 0, .slice none 0 0, .int .i64 0, .int .i64 0, .slice none 0 0], #[.int .i64 0, .int .i64 0, .bool false, .int .i64 0, .int .i64 0, .int .i64 0, .int .i64 0, .int .i64 0, .int .i64 0, .slice none 0 0, .int .i64 0, .slice none 0 0, .string ⟨#[]⟩, .int .i64 0, .slice none 0 0, .int .i64 0, .int .i64 0, .slice none 0 0], ?_, zDH _ _, zDH _ _, fun h => h rfl⟩, ((Rg.Bk.new rfl).old _).old _, Rg.Bk.new (by simp), Rg.chain (Rg.al2 w _ _) (Rg.al1 _ _)⟩
  have := (Rg.Bk.new (b := w.heap.size + 1) (C := [.int .i64 0, .int .i64 0, .bool false, .int .i64 0, .int .i64 0, .int .i64 0, .int .i64 0, .int .i64 0, .int .i64 0, .slice none 0 0, .int .i64 0, .slice none 0 0, .string ⟨#[]⟩, .int .i64 0, .slice none 0 0, .int .i64 0, .int .i64 0, .slice none 0 0, .int .i64 0, .int .i64 0, .bool false, .int .i64 0, .int .i64 0, .int .i64 0, .int .i64 0, .int .i64 0, .int .i64 0, .slice none 0 0, .int .i64 0, .slice none 0 0, .string ⟨#[]⟩, .int .i64 0, .slice none 0 0, .int .i64 0, .int .i64 0, .slice none 0 0, .string ⟨#[]⟩, .string ⟨#[]⟩, .string ⟨#[]⟩, .string ⟨#[]⟩, .string ⟨#[]⟩, .string ⟨#[]⟩, .int .i64 0, .int .i64 0, .slice none 0 0, .slice none 0 0, .bool false]) (ty := 52) (W := w.alloc (.cells #[.int .i64 0, .int .i64 0, .bool false, .int .i64 0, .int .i64 0, .int .i64 0, .int .i64 0, .int .i64 0, .int .i64 0, .slice none 0 0, .int .i64 0, .slice none 0 0, .string ⟨#[]⟩, .int .i64 0, .slice none 0 0, .int .i64 0, .int .i64 0, .slice none 0 0, .int .i64 0, .int .i64 0, .bool false, .int .i64 0, .int .i64 0, .int .i64 0, .int .i64 0, .int .i64 0, .int .i64 0, .slice none 0 0, .int .i64 0, .slice none 0 0, .string ⟨#[]⟩, .int .i64 0, .slice none 0 0, .int .i64 0, .int .i64 0, .slice none 0 0, .string ⟨#[]⟩, .string ⟨#[]⟩, .string ⟨#[]⟩, .string ⟨#[]⟩, .string ⟨#[]⟩, .string ⟨#[]⟩, .int .i64 0, .int .i64 0, .slice none 0 0, .slice none 0 0, .bool false] 52)) (by simp)).old (.cells #[.int .i64 32, .int .i64 64, .int .i64 128, .int .i64 512, .int .i64 4096] 3)
  exact this
theorem sizes_at {BS : Nat} {wr : World} (k : Rg.Bk BS [.int .i64 32, .int .i64 64, .int .i64 128, .int .i64 512, .int .i64 4096] 3 wr) (K : Nat) (hK : K < 5) : ∃ z : Int, wr.cell? ⟨BS, K, none⟩ = some (.int .i64 z) ∧ Gf.code z ≠ 0 ∧ ∃ y : Int, min z 64 = y ∧ Gf.code y ≠ 0 ∧ y ≤ 64 := by
  have h := k.cell K
  match K, hK with
  | 0, _ => exact ⟨32, h, by decide, 32, by decide, by decide, by decide⟩
  | 1, _ => exact ⟨64, h, by decide, 64, by decide, by decide, by decide⟩
  | 2, _ => exact ⟨128, h, by decide, 64, by decide, by decide, by decide⟩
  | 3, _ => exact ⟨512, h, by decide, 64, by decide, by decide, by decide⟩
  | 4, _ => exact ⟨4096, h, by decide, 64, by decide, by decide, by decide⟩
/-- what begun leaves -/
def BgPost (lt : Int) (w : World) (e : Ending) (w' : World) : Prop := ∃ CA CB za zb ra rb, e = .returned (.tuple #[.agg (PC CA CB (bR (Gp.ctrl 7 rb) (Gp.ctrl 7 ra))).toArray, .bool true]) ∧ Hid (∀ Kp : Nat → Prop, DH Kp w' (Gp.begin_ lt true za ra) CA ∧ DH Kp w' (Gp.begin_ lt false zb rb) CB) ∧ Hid (Below w.heap.size w w') ∧ Hid (Gf.code za ≠ 0 ∧ Gf.code zb ≠ 0 ∧ (lt = 103 → za ≤ 64) ∧ (lt = 103 → zb ≤ 64) ∧ 1 ≤ ra ∧ ra ≤ 7 ∧ 1 ≤ rb ∧ rb ≤ 7)
set_option maxHeartbeats 4000000 in
set_option maxRecDepth 100000 in
theorem begun_g (x y : Int) (U U3 V V3 K0 K1 J0 J1 : Nat) (r0 r1 : Int) (w : World)
    (u0 : IntKind.u64.wrap x = (U : Int)) (u1 : IntKind.u64.wrap (U : Int) = (U : Int)) (u2 : (U : Int).tmod 5 = (K0 : Int)) (u3 : IntKind.u64.wrap ((U : Int) + 3) = (U3 : Int)) (u4 : (U3 : Int).tmod 5 = (K1 : Int)) (hK0 : Hid (K0 < 5)) (hK1 : Hid (K1 < 5)) (c0 : (0 : Int) ≤ (K0 : Int)) (c1 : (K0 : Int) < 5) (c2 : (0 : Int) ≤ (K1 : Int)) (c3 : (K1 : Int) < 5)
    (v0 : IntKind.u64.wrap y = (V : Int)) (v1 : IntKind.u64.wrap (V : Int) = (V : Int)) (v2 : (V : Int).tmod 7 = (J0 : Int)) (v3 : IntKind.u64.wrap ((V : Int) + 3) = (V3 : Int)) (v4 : (V3 : Int).tmod 7 = (J1 : Int)) (j0 : IntKind.i64.wrap (J0 : Int) = (J0 : Int)) (j1 : IntKind.i64.wrap (J1 : Int) = (J1 : Int)) (r0e : wrap64 (1 + (J0 : Int)) = r0) (r1e : wrap64 (1 + (J1 : Int)) = r1) (hr : Hid ((1 ≤ r0 ∧ r0 ≤ 7) ∧ (1 ≤ r1 ∧ r1 ≤ 7))) :
    Calls Tryz.prog 23 #[.int .i64 103, .int .i64 x, .int .i64 y] w fun e w' => BgPost 103 w e w' := by
  have hS := Rg.hid (Bg.start w)
  go_enter Tryz.func23, Tryz.ntmps23
  go_upto_region 3 with fail
  generalize World.alloc _ _ = w1 at *
  obtain ⟨B6, hB6⟩ : ∃ B, B = w.heap.size := ⟨_, rfl⟩
  obtain ⟨B8, hB8⟩ : ∃ B, B = w.heap.size + 1 := ⟨_, rfl⟩
  obtain ⟨BS, hBS⟩ : ∃ B, B = w.heap.size + 1 + 1 := ⟨_, rfl⟩
  rw [← hBS, ← hB8, ← hB6] at hS
  rw [← hBS, ← hB8, ← hB6]
  have n68 : Hid (B6 ≠ B8) := by show _ ≠ _; omega
  have nS8 : Hid (BS ≠ B8) := by show _ ≠ _; omega
  have h8w : Hid (w.heap.size ≤ B8) := by show _ ≤ _; omega
  have h6w : Hid (w.heap.size ≤ B6) := by show _ ≤ _; omega
  clear hB6 hB8 hBS
  generalize (fun b => b ≠ B8 : Nat → Prop) = Kp at hS
  go_wp2
  go_loopw [16] (fun vi wr => (vi = .int .i64 0 ∧ Hid (Bg Kp B6 B8 BS w wr zD zD [] [])) ∨ (∃ za, vi = .int .i64 1 ∧ Hid (Gf.code za ≠ 0 ∧ ((103 : Int) = 103 → za ≤ 64)) ∧ Hid (Bg Kp B6 B8 BS w wr (Gp.begin_ 103 true za r0) zD [] (Gp.ctrl 7 r0))) ∨ (∃ za zb, vi = .int .i64 2 ∧ Hid (Gf.code za ≠ 0 ∧ ((103 : Int) = 103 → za ≤ 64)) ∧ Hid (Gf.code zb ≠ 0 ∧ ((103 : Int) = 103 → zb ≤ 64)) ∧ Hid (Bg Kp B6 B8 BS w wr (Gp.begin_ 103 true za r0) (Gp.begin_ 103 false zb r1) (Gp.ctrl 7 r1) (Gp.ctrl 7 r0)))) (fun vi _ => 2 - (intOf vi).toNat)
  case atStart => exact .inl ⟨rfl, hS⟩
  case round =>
    rcases hrel with ⟨rfl, hI⟩ | ⟨za, rfl, hza, hI⟩ | ⟨za, zb, rfl, hza, hzb, hI⟩
    · obtain ⟨⟨CA, CB, hP⟩, k6, kS, bw⟩ := hI.out
      obtain ⟨z, cz, hz1, z2, hy, hz2, hz3⟩ := sizes_at kS K0 hK0.out
      have HB := Rg.hid (fun W => hbegin Kp 103 true z2 r0 W (.inl rfl) hz2 (fun _ => hz3) hr.out.1.1 hr.out.1.2)
      have hz := Rg.hid (And.intro hz2 hz3)
      replace hP := Rg.hid hP
      replace k6 := Rg.hid k6
      replace kS := Rg.hid kS
      replace bw := Rg.hid bw
      clear hz1 hz2 hz3
      clear hI hS
      go_upto_region 9 with fail
      go_upto_region 10 with (first | (go_at_call 7; refine (HB.out _).mono ?_; rintro e w2 ⟨CD, rfl, hD2, b2⟩; obtain ⟨w3, st3, k3, b3, hD3⟩ := hD2.out.box) | (with_reducible refine is_store (.tmp 12) (.tmp 48) 29 ?_; refine list_store (.tmp 12) (.tmp 48) 29 rfl rfl st3.out ?_))
      obtain ⟨B12, hB12⟩ : ∃ B, B = w2.heap.size := ⟨_, rfl⟩
      rw [← hB12] at k3 ⊢
      have b13 := Rg.hid (Rg.chain b2.out b3.out)
      have hP3 := Rg.hid (hP.out.below b13.out)
      have k63 := Rg.hid (k6.out.below b13.out k6.out.lt)
      have kS3 := Rg.hid (kS.out.below b13.out kS.out.lt)
      have bw3 := Rg.hid (Rg.chain bw.out b13.out)
      have hldD := Rg.hid (hD3.out.load k3.out)
      obtain ⟨w4, st4, hP4, o4⟩ := hP3.out.storeA hD3.out
      have k64 := Rg.hid (k63.out.same (o4.out.block B6 n68.out))
      have kS4 := Rg.hid (kS3.out.same (o4.out.block BS nS8.out))
      have bw4 := Rg.hid (bw3.out.trans (o4.out.bel h8w.out))
      clear hB12 HB hP k6 kS bw hD2 b2 st3 b3 hP3 k63 kS3 bw3 b13 k3 hD3 o4
      go_upto_region 13 with (first | (with_reducible refine is_load (.tmp 12) 29 ?_; refine list_load (.tmp 12) 29 rfl hldD.out ?_) | (with_reducible refine is_store (.tmp 57) (.tmp 55) 29 ?_; refine list_mstore (.tmp 57) (.tmp 55) 29 rfl rfl st4.out ?_))
      have c37 : w4.cell? ⟨B8, 37, none⟩ = some (.string ⟨#[]⟩) := hP4.out.cell 1
      have f37 := hP4.out.bk.thaw 37
      have hP5 := Rg.hid (hP4.out.set 1 (.string ⟨(Gp.ctrl 7 r0).toArray⟩))
      have k65 := Rg.hid (k64.out.same ((Rg.Only.setCell w4 B8 37 (.string ⟨(Gp.ctrl 7 r0).toArray⟩)).block B6 n68.out))
      have kS5 := Rg.hid (kS4.out.same ((Rg.Only.setCell w4 B8 37 (.string ⟨(Gp.ctrl 7 r0).toArray⟩)).block BS nS8.out))
      have bw5 := Rg.hid (bw4.out.trans ((Rg.Only.setCell w4 B8 37 (.string ⟨(Gp.ctrl 7 r0).toArray⟩)).bel h8w.out))
      clear hldD st4 hP4 k64 kS4 bw4
      go_wp2
      go_roundw
      case rel => exact .inr (.inl ⟨z2, by go_num, ⟨hz.out.1, fun _ => hz.out.2⟩, ⟨CD, CB, hP5.out⟩, k65.out, kS5.out, bw5.out⟩)
      case measure => simp [intOf]
    · obtain ⟨⟨CA, CB, hP⟩, k6, kS, bw⟩ := hI.out
      obtain ⟨z, cz, hz1, z2, hy, hz2, hz3⟩ := sizes_at kS K1 hK1.out
      have HB := Rg.hid (fun W => hbegin Kp 103 false z2 r1 W (.inl rfl) hz2 (fun _ => hz3) hr.out.2.1 hr.out.2.2)
      have hz := Rg.hid (And.intro hz2 hz3)
      replace hP := Rg.hid hP
      replace k6 := Rg.hid k6
      replace kS := Rg.hid kS
      replace bw := Rg.hid bw
      clear hz1 hz2 hz3
      clear hI hS
      go_upto_region 9 with fail
      go_upto_region 10 with (first | (go_at_call 7; refine (HB.out _).mono ?_; rintro e w2 ⟨CD, rfl, hD2, b2⟩; obtain ⟨w3, st3, k3, b3, hD3⟩ := hD2.out.box) | (with_reducible refine is_store (.tmp 12) (.tmp 48) 29 ?_; refine list_store (.tmp 12) (.tmp 48) 29 rfl rfl st3.out ?_))
      obtain ⟨B12, hB12⟩ : ∃ B, B = w2.heap.size := ⟨_, rfl⟩
      rw [← hB12] at k3 ⊢
      have b13 := Rg.hid (Rg.chain b2.out b3.out)
      have hP3 := Rg.hid (hP.out.below b13.out)
      have k63 := Rg.hid (k6.out.below b13.out k6.out.lt)
      have kS3 := Rg.hid (kS.out.below b13.out kS.out.lt)
      have bw3 := Rg.hid (Rg.chain bw.out b13.out)
      have hldD := Rg.hid (hD3.out.load k3.out)
      obtain ⟨w4, st4, hP4, o4⟩ := hP3.out.storeB hD3.out
      have k64 := Rg.hid (k63.out.same (o4.out.block B6 n68.out))
      have kS4 := Rg.hid (kS3.out.same (o4.out.block BS nS8.out))
      have bw4 := Rg.hid (bw3.out.trans (o4.out.bel h8w.out))
      clear hB12 HB hP k6 kS bw hD2 b2 st3 b3 hP3 k63 kS3 bw3 b13 k3 hD3 o4
      go_upto_region 13 with (first | (with_reducible refine is_load (.tmp 12) 29 ?_; refine list_load (.tmp 12) 29 rfl hldD.out ?_) | (with_reducible refine is_store (.tmp 57) (.tmp 55) 29 ?_; refine list_mstore (.tmp 57) (.tmp 55) 29 rfl rfl st4.out ?_))
      have c37 : w4.cell? ⟨B8, 36, none⟩ = some (.string ⟨#[]⟩) := hP4.out.cell 0
      have f37 := hP4.out.bk.thaw 36
      have hP5 := Rg.hid (hP4.out.set 0 (.string ⟨(Gp.ctrl 7 r1).toArray⟩))
      have k65 := Rg.hid (k64.out.same ((Rg.Only.setCell w4 B8 36 (.string ⟨(Gp.ctrl 7 r1).toArray⟩)).block B6 n68.out))
      have kS5 := Rg.hid (kS4.out.same ((Rg.Only.setCell w4 B8 36 (.string ⟨(Gp.ctrl 7 r1).toArray⟩)).block BS nS8.out))
      have bw5 := Rg.hid (bw4.out.trans ((Rg.Only.setCell w4 B8 36 (.string ⟨(Gp.ctrl 7 r1).toArray⟩)).bel h8w.out))
      clear hldD st4 hP4 k64 kS4 bw4
      go_wp2
      go_roundw
      case rel => exact .inr (.inr ⟨za, z2, by go_num, hza, ⟨hz.out.1, fun _ => hz.out.2⟩, ⟨CA, CD, hP5.out⟩, k65.out, kS5.out, bw5.out⟩)
      case measure => simp [intOf]
    · obtain ⟨⟨CA, CB, hP⟩, k6, _, bw⟩ := hI.out
      have hsz : (PC CA CB (bR (Gp.ctrl 7 r1) (Gp.ctrl 7 r0))).toArray.size = 47 := by
        unfold PC bR
        simp [hP.ha.size, hP.hb.size]
      have hone : (PC CA CB (bR (Gp.ctrl 7 r1) (Gp.ctrl 7 r0))).toArray.all (·.oneCell') = true := by
        have h1 := hP.ha.one
        have h2 := hP.hb.one
        unfold PC bR
        simp [Value.oneCell'] at *
        exact ⟨h1, h2⟩
      obtain ⟨CP, hCP⟩ : ∃ CP, CP = (PC CA CB (bR (Gp.ctrl 7 r1) (Gp.ctrl 7 r0))).toArray := ⟨_, rfl⟩
      have k8 := hP.bk
      have eL : PC CA CB (bR (Gp.ctrl 7 r1) (Gp.ctrl 7 r0)) = CP.toList := by rw [hCP]
      rw [eL] at k8
      rw [← hCP] at hsz hone
      have hin : (Tryz.prog.info? 52).map (·.size) = some CP.size := by rw [hsz]; exact info_pair
      have hld := Rg.hid (Rg.row_loadVar (P := Tryz.prog) (t := 52) (CS := CP) k8 Tryz.underlying52 rfl hin)
      obtain ⟨w5, st5, k5, o5⟩ := Rg.row_storeVar (P := Tryz.prog) (t := 52) (CS := CP) k6 hin (by rw [hsz]; rfl) hone
      have hres := Rg.row_loadVar (P := Tryz.prog) (t := 52) (CS := CP) k5 Tryz.underlying52 rfl hin
      have hfe : BgPost 103 w (.returned (.tuple #[.agg CP, .bool true])) w5 := by
        refine ⟨CA, CB, za, zb, r0, r1, by rw [hCP], ?_, bw.trans (o5.bel h6w.out), ⟨hza.out.1, hzb.out.1, hza.out.2, hzb.out.2, hr.out.1.1, hr.out.1.2, hr.out.2.1, hr.out.2.2⟩⟩
        intro Kq
        exact ⟨(hP.ha.any (Kq := fun b => b ≠ B6) rfl rfl rfl rfl).only (fun h => h rfl) o5 |>.any rfl rfl rfl rfl, (hP.hb.any (Kq := fun b => b ≠ B6) rfl rfl rfl rfl).only (fun h => h rfl) o5 |>.any rfl rfl rfl rfl⟩
      replace st5 := Rg.hid st5
      replace hres := Rg.hid hres
      replace hfe := Rg.hid hfe
      clear hsz hone hCP k8 eL hin k5 o5 hP k6 bw hI hza hzb hS
      go_upto_region 15 with fail
      go_wp2_with (first | (with_reducible refine is_load (.tmp 8) 52 ?_; refine list_load (.tmp 8) 52 rfl hld.out ?_) | (with_reducible refine is_store (.tmp 6) (.tmp 64) 52 ?_; refine list_store (.tmp 6) (.tmp 64) 52 rfl rfl st5.out ?_))
      exact bodyPost_ret (v := .tuple #[.agg CP, .bool true]) (results_row2 rfl rfl rfl hres.out) rfl hfe.out
set_option maxHeartbeats 4000000 in
set_option maxRecDepth 100000 in
theorem begun_G (x y : Int) (U U3 V V3 K0 K1 J0 J1 : Nat) (r0 r1 : Int) (w : World)
    (u0 : IntKind.u64.wrap x = (U : Int)) (u1 : IntKind.u64.wrap (U : Int) = (U : Int)) (u2 : (U : Int).tmod 5 = (K0 : Int)) (u3 : IntKind.u64.wrap ((U : Int) + 3) = (U3 : Int)) (u4 : (U3 : Int).tmod 5 = (K1 : Int)) (hK0 : Hid (K0 < 5)) (hK1 : Hid (K1 < 5)) (c0 : (0 : Int) ≤ (K0 : Int)) (c1 : (K0 : Int) < 5) (c2 : (0 : Int) ≤ (K1 : Int)) (c3 : (K1 : Int) < 5)
    (v0 : IntKind.u64.wrap y = (V : Int)) (v1 : IntKind.u64.wrap (V : Int) = (V : Int)) (v2 : (V : Int).tmod 7 = (J0 : Int)) (v3 : IntKind.u64.wrap ((V : Int) + 3) = (V3 : Int)) (v4 : (V3 : Int).tmod 7 = (J1 : Int)) (j0 : IntKind.i64.wrap (J0 : Int) = (J0 : Int)) (j1 : IntKind.i64.wrap (J1 : Int) = (J1 : Int)) (r0e : wrap64 (1 + (J0 : Int)) = r0) (r1e : wrap64 (1 + (J1 : Int)) = r1) (hr : Hid ((1 ≤ r0 ∧ r0 ≤ 7) ∧ (1 ≤ r1 ∧ r1 ≤ 7))) :
    Calls Tryz.prog 23 #[.int .i64 71, .int .i64 x, .int .i64 y] w fun e w' => BgPost 71 w e w' := by
  have hS := Rg.hid (Bg.start w)
  go_enter Tryz.func23, Tryz.ntmps23
  go_upto_region 3 with fail
  generalize World.alloc _ _ = w1 at *
  obtain ⟨B6, hB6⟩ : ∃ B, B = w.heap.size := ⟨_, rfl⟩
  obtain ⟨B8, hB8⟩ : ∃ B, B = w.heap.size + 1 := ⟨_, rfl⟩
  obtain ⟨BS, hBS⟩ : ∃ B, B = w.heap.size + 1 + 1 := ⟨_, rfl⟩
  rw [← hBS, ← hB8, ← hB6] at hS
  rw [← hBS, ← hB8, ← hB6]
  have n68 : Hid (B6 ≠ B8) := by show _ ≠ _; omega
  have nS8 : Hid (BS ≠ B8) := by show _ ≠ _; omega
  have h8w : Hid (w.heap.size ≤ B8) := by show _ ≤ _; omega
  have h6w : Hid (w.heap.size ≤ B6) := by show _ ≤ _; omega
  clear hB6 hB8 hBS
  generalize (fun b => b ≠ B8 : Nat → Prop) = Kp at hS
  go_wp2
  go_loopw [16] (fun vi wr => (vi = .int .i64 0 ∧ Hid (Bg Kp B6 B8 BS w wr zD zD [] [])) ∨ (∃ za, vi = .int .i64 1 ∧ Hid (Gf.code za ≠ 0 ∧ ((71 : Int) = 103 → za ≤ 64)) ∧ Hid (Bg Kp B6 B8 BS w wr (Gp.begin_ 71 true za r0) zD [] (Gp.ctrl 7 r0))) ∨ (∃ za zb, vi = .int .i64 2 ∧ Hid (Gf.code za ≠ 0 ∧ ((71 : Int) = 103 → za ≤ 64)) ∧ Hid (Gf.code zb ≠ 0 ∧ ((71 : Int) = 103 → zb ≤ 64)) ∧ Hid (Bg Kp B6 B8 BS w wr (Gp.begin_ 71 true za r0) (Gp.begin_ 71 false zb r1) (Gp.ctrl 7 r1) (Gp.ctrl 7 r0)))) (fun vi _ => 2 - (intOf vi).toNat)
  case atStart => exact .inl ⟨rfl, hS⟩
  case round =>
    rcases hrel with ⟨rfl, hI⟩ | ⟨za, rfl, hza, hI⟩ | ⟨za, zb, rfl, hza, hzb, hI⟩
    · obtain ⟨⟨CA, CB, hP⟩, k6, kS, bw⟩ := hI.out
      obtain ⟨z, cz, hz1, z2, hy, hz2, hz3⟩ := sizes_at kS K0 hK0.out
      have HB := Rg.hid (fun W => hbegin Kp 71 true z r0 W (.inr rfl) hz1 (fun h => by cases h) hr.out.1.1 hr.out.1.2)
      have hz := Rg.hid hz1
      replace hP := Rg.hid hP
      replace k6 := Rg.hid k6
      replace kS := Rg.hid kS
      replace bw := Rg.hid bw
      clear hz1 hz2 hz3 hy
      clear hI hS
      go_upto_region 9 with fail
      go_upto_region 10 with (first | (go_at_call 7; refine (HB.out _).mono ?_; rintro e w2 ⟨CD, rfl, hD2, b2⟩; obtain ⟨w3, st3, k3, b3, hD3⟩ := hD2.out.box) | (with_reducible refine is_store (.tmp 12) (.tmp 48) 29 ?_; refine list_store (.tmp 12) (.tmp 48) 29 rfl rfl st3.out ?_))
      obtain ⟨B12, hB12⟩ : ∃ B, B = w2.heap.size := ⟨_, rfl⟩
      rw [← hB12] at k3 ⊢
      have b13 := Rg.hid (Rg.chain b2.out b3.out)
      have hP3 := Rg.hid (hP.out.below b13.out)
      have k63 := Rg.hid (k6.out.below b13.out k6.out.lt)
      have kS3 := Rg.hid (kS.out.below b13.out kS.out.lt)
      have bw3 := Rg.hid (Rg.chain bw.out b13.out)
      have hldD := Rg.hid (hD3.out.load k3.out)
      obtain ⟨w4, st4, hP4, o4⟩ := hP3.out.storeA hD3.out
      have k64 := Rg.hid (k63.out.same (o4.out.block B6 n68.out))
      have kS4 := Rg.hid (kS3.out.same (o4.out.block BS nS8.out))
      have bw4 := Rg.hid (bw3.out.trans (o4.out.bel h8w.out))
      clear hB12 HB hP k6 kS bw hD2 b2 st3 b3 hP3 k63 kS3 bw3 b13 k3 hD3 o4
      go_upto_region 13 with (first | (with_reducible refine is_load (.tmp 12) 29 ?_; refine list_load (.tmp 12) 29 rfl hldD.out ?_) | (with_reducible refine is_store (.tmp 57) (.tmp 55) 29 ?_; refine list_mstore (.tmp 57) (.tmp 55) 29 rfl rfl st4.out ?_))
      have c37 : w4.cell? ⟨B8, 37, none⟩ = some (.string ⟨#[]⟩) := hP4.out.cell 1
      have f37 := hP4.out.bk.thaw 37
      have hP5 := Rg.hid (hP4.out.set 1 (.string ⟨(Gp.ctrl 7 r0).toArray⟩))
      have k65 := Rg.hid (k64.out.same ((Rg.Only.setCell w4 B8 37 (.string ⟨(Gp.ctrl 7 r0).toArray⟩)).block B6 n68.out))
      have kS5 := Rg.hid (kS4.out.same ((Rg.Only.setCell w4 B8 37 (.string ⟨(Gp.ctrl 7 r0).toArray⟩)).block BS nS8.out))
      have bw5 := Rg.hid (bw4.out.trans ((Rg.Only.setCell w4 B8 37 (.string ⟨(Gp.ctrl 7 r0).toArray⟩)).bel h8w.out))
      clear hldD st4 hP4 k64 kS4 bw4
      go_wp2
      go_roundw
      case rel => exact .inr (.inl ⟨z, by go_num, ⟨hz.out, fun h => by cases h⟩, ⟨CD, CB, hP5.out⟩, k65.out, kS5.out, bw5.out⟩)
      case measure => simp [intOf]
    · obtain ⟨⟨CA, CB, hP⟩, k6, kS, bw⟩ := hI.out
      obtain ⟨z, cz, hz1, z2, hy, hz2, hz3⟩ := sizes_at kS K1 hK1.out
      have HB := Rg.hid (fun W => hbegin Kp 71 false z r1 W (.inr rfl) hz1 (fun h => by cases h) hr.out.2.1 hr.out.2.2)
      have hz := Rg.hid hz1
      replace hP := Rg.hid hP
      replace k6 := Rg.hid k6
      replace kS := Rg.hid kS
      replace bw := Rg.hid bw
      clear hz1 hz2 hz3 hy
      clear hI hS
      go_upto_region 9 with fail
      go_upto_region 10 with (first | (go_at_call 7; refine (HB.out _).mono ?_; rintro e w2 ⟨CD, rfl, hD2, b2⟩; obtain ⟨w3, st3, k3, b3, hD3⟩ := hD2.out.box) | (with_reducible refine is_store (.tmp 12) (.tmp 48) 29 ?_; refine list_store (.tmp 12) (.tmp 48) 29 rfl rfl st3.out ?_))
      obtain ⟨B12, hB12⟩ : ∃ B, B = w2.heap.size := ⟨_, rfl⟩
      rw [← hB12] at k3 ⊢
      have b13 := Rg.hid (Rg.chain b2.out b3.out)
      have hP3 := Rg.hid (hP.out.below b13.out)
      have k63 := Rg.hid (k6.out.below b13.out k6.out.lt)
      have kS3 := Rg.hid (kS.out.below b13.out kS.out.lt)
      have bw3 := Rg.hid (Rg.chain bw.out b13.out)
      have hldD := Rg.hid (hD3.out.load k3.out)
      obtain ⟨w4, st4, hP4, o4⟩ := hP3.out.storeB hD3.out
      have k64 := Rg.hid (k63.out.same (o4.out.block B6 n68.out))
      have kS4 := Rg.hid (kS3.out.same (o4.out.block BS nS8.out))
      have bw4 := Rg.hid (bw3.out.trans (o4.out.bel h8w.out))
      clear hB12 HB hP k6 kS bw hD2 b2 st3 b3 hP3 k63 kS3 bw3 b13 k3 hD3 o4
      go_upto_region 13 with (first | (with_reducible refine is_load (.tmp 12) 29 ?_; refine list_load (.tmp 12) 29 rfl hldD.out ?_) | (with_reducible refine is_store (.tmp 57) (.tmp 55) 29 ?_; refine list_mstore (.tmp 57) (.tmp 55) 29 rfl rfl st4.out ?_))
      have c37 : w4.cell? ⟨B8, 36, none⟩ = some (.string ⟨#[]⟩) := hP4.out.cell 0
      have f37 := hP4.out.bk.thaw 36
      have hP5 := Rg.hid (hP4.out.set 0 (.string ⟨(Gp.ctrl 7 r1).toArray⟩))
      have k65 := Rg.hid (k64.out.same ((Rg.Only.setCell w4 B8 36 (.string ⟨(Gp.ctrl 7 r1).toArray⟩)).block B6 n68.out))
      have kS5 := Rg.hid (kS4.out.same ((Rg.Only.setCell w4 B8 36 (.string ⟨(Gp.ctrl 7 r1).toArray⟩)).block BS nS8.out))
      have bw5 := Rg.hid (bw4.out.trans ((Rg.Only.setCell w4 B8 36 (.string ⟨(Gp.ctrl 7 r1).toArray⟩)).bel h8w.out))
      clear hldD st4 hP4 k64 kS4 bw4
      go_wp2
      go_roundw
      case rel => exact .inr (.inr ⟨za, z, by go_num, hza, ⟨hz.out, fun h => by cases h⟩, ⟨CA, CD, hP5.out⟩, k65.out, kS5.out, bw5.out⟩)
      case measure => simp [intOf]
    · obtain ⟨⟨CA, CB, hP⟩, k6, _, bw⟩ := hI.out
      have hsz : (PC CA CB (bR (Gp.ctrl 7 r1) (Gp.ctrl 7 r0))).toArray.size = 47 := by
        unfold PC bR
        simp [hP.ha.size, hP.hb.size]
      have hone : (PC CA CB (bR (Gp.ctrl 7 r1) (Gp.ctrl 7 r0))).toArray.all (·.oneCell') = true := by
        have h1 := hP.ha.one
        have h2 := hP.hb.one
        unfold PC bR
        simp [Value.oneCell'] at *
        exact ⟨h1, h2⟩
      obtain ⟨CP, hCP⟩ : ∃ CP, CP = (PC CA CB (bR (Gp.ctrl 7 r1) (Gp.ctrl 7 r0))).toArray := ⟨_, rfl⟩
      have k8 := hP.bk
      have eL : PC CA CB (bR (Gp.ctrl 7 r1) (Gp.ctrl 7 r0)) = CP.toList := by rw [hCP]
      rw [eL] at k8
      rw [← hCP] at hsz hone
      have hin : (Tryz.prog.info? 52).map (·.size) = some CP.size := by rw [hsz]; exact info_pair
      have hld := Rg.hid (Rg.row_loadVar (P := Tryz.prog) (t := 52) (CS := CP) k8 Tryz.underlying52 rfl hin)
      obtain ⟨w5, st5, k5, o5⟩ := Rg.row_storeVar (P := Tryz.prog) (t := 52) (CS := CP) k6 hin (by rw [hsz]; rfl) hone
      have hres := Rg.row_loadVar (P := Tryz.prog) (t := 52) (CS := CP) k5 Tryz.underlying52 rfl hin
      have hfe : BgPost 71 w (.returned (.tuple #[.agg CP, .bool true])) w5 := by
        refine ⟨CA, CB, za, zb, r0, r1, by rw [hCP], ?_, bw.trans (o5.bel h6w.out), ⟨hza.out.1, hzb.out.1, hza.out.2, hzb.out.2, hr.out.1.1, hr.out.1.2, hr.out.2.1, hr.out.2.2⟩⟩
        intro Kq
        exact ⟨(hP.ha.any (Kq := fun b => b ≠ B6) rfl rfl rfl rfl).only (fun h => h rfl) o5 |>.any rfl rfl rfl rfl, (hP.hb.any (Kq := fun b => b ≠ B6) rfl rfl rfl rfl).only (fun h => h rfl) o5 |>.any rfl rfl rfl rfl⟩
      replace st5 := Rg.hid st5
      replace hres := Rg.hid hres
      replace hfe := Rg.hid hfe
      clear hsz hone hCP k8 eL hin k5 o5 hP k6 bw hI hza hzb hS
      go_upto_region 15 with fail
      go_wp2_with (first | (with_reducible refine is_load (.tmp 8) 52 ?_; refine list_load (.tmp 8) 52 rfl hld.out ?_) | (with_reducible refine is_store (.tmp 6) (.tmp 64) 52 ?_; refine list_store (.tmp 6) (.tmp 64) 52 rfl rfl st5.out ?_))
      exact bodyPost_ret (v := .tuple #[.agg CP, .bool true]) (results_row2 rfl rfl rfl hres.out) rfl hfe.out
theorem nums5 (x : Int) : ∃ U U3 K0 K1 : Nat, IntKind.u64.wrap x = (U : Int) ∧ IntKind.u64.wrap (U : Int) = (U : Int) ∧ (U : Int).tmod 5 = (K0 : Int) ∧ IntKind.u64.wrap ((U : Int) + 3) = (U3 : Int) ∧ (U3 : Int).tmod 5 = (K1 : Int) ∧ K0 < 5 ∧ K1 < 5 := by
  obtain ⟨U, hU⟩ : ∃ U : Nat, IntKind.u64.wrap x = (U : Int) := ⟨(IntKind.u64.wrap x).toNat, by rw [IntKind.wrap_u64]; omega⟩
  have hU2 : U < 18446744073709551616 := by rw [IntKind.wrap_u64] at hU; omega
  obtain ⟨U3, hU3⟩ : ∃ U3 : Nat, IntKind.u64.wrap ((U : Int) + 3) = (U3 : Int) := ⟨(IntKind.u64.wrap ((U : Int) + 3)).toNat, by rw [IntKind.wrap_u64]; omega⟩
  refine ⟨U, U3, U % 5, U3 % 5, hU, by rw [IntKind.wrap_u64]; omega, ?_, hU3, ?_, by omega, by omega⟩
  · rw [Int.tmod_eq_emod_of_nonneg (by omega)]; omega
  · rw [Int.tmod_eq_emod_of_nonneg (by omega)]; omega
theorem nums7 (x : Int) : ∃ U U3 K0 K1 : Nat, IntKind.u64.wrap x = (U : Int) ∧ IntKind.u64.wrap (U : Int) = (U : Int) ∧ (U : Int).tmod 7 = (K0 : Int) ∧ IntKind.u64.wrap ((U : Int) + 3) = (U3 : Int) ∧ (U3 : Int).tmod 7 = (K1 : Int) ∧ K0 < 7 ∧ K1 < 7 := by
  obtain ⟨U, hU⟩ : ∃ U : Nat, IntKind.u64.wrap x = (U : Int) := ⟨(IntKind.u64.wrap x).toNat, by rw [IntKind.wrap_u64]; omega⟩
  have hU2 : U < 18446744073709551616 := by rw [IntKind.wrap_u64] at hU; omega
  obtain ⟨U3, hU3⟩ : ∃ U3 : Nat, IntKind.u64.wrap ((U : Int) + 3) = (U3 : Int) := ⟨(IntKind.u64.wrap ((U : Int) + 3)).toNat, by rw [IntKind.wrap_u64]; omega⟩
  refine ⟨U, U3, U % 7, U3 % 7, hU, by rw [IntKind.wrap_u64]; omega, ?_, hU3, ?_, by omega, by omega⟩
  · rw [Int.tmod_eq_emod_of_nonneg (by omega)]; omega
  · rw [Int.tmod_eq_emod_of_nonneg (by omega)]; omega
theorem sm7 (J : Nat) (h : J < 7) : IntKind.i64.wrap (J : Int) = (J : Int) ∧ wrap64 (1 + (J : Int)) = 1 + (J : Int) ∧ (1 : Int) ≤ 1 + (J : Int) ∧ 1 + (J : Int) ≤ 7 := ⟨by rw [IntKind.wrap_i64]; omega, by unfold wrap64; omega, by omega, by omega⟩
theorem sm5 (K : Nat) (h : K < 5) : (0 : Int) ≤ (K : Int) ∧ (K : Int) < 5 := by omega
theorem begun_any (lt x y : Int) (w : World) (h : lt = 103 ∨ lt = 71) : Calls Tryz.prog 23 #[.int .i64 lt, .int .i64 x, .int .i64 y] w fun e w' => BgPost lt w e w' := by
  obtain ⟨U, U3, K0, K1, u0, u1, u2, u3, u4, k0, k1⟩ := nums5 x
  obtain ⟨V, V3, J0, J1, v0, v1, v2, v3, v4, j0, j1⟩ := nums7 y
  obtain ⟨a1, a2, a3, a4⟩ := sm7 J0 j0
  obtain ⟨b1, b2, b3, b4⟩ := sm7 J1 j1
  obtain ⟨c1, c2⟩ := sm5 K0 k0
  obtain ⟨d1, d2⟩ := sm5 K1 k1
  rcases h with rfl | rfl
  · exact begun_g x y U U3 V V3 K0 K1 J0 J1 _ _ w u0 u1 u2 u3 u4 k0 k1 c1 c2 d1 d2 v0 v1 v2 v3 v4 a1 b1 a2 b2 ⟨⟨a3, a4⟩, b3, b4⟩
  · exact begun_G x y U U3 V V3 K0 K1 J0 J1 _ _ w u0 u1 u2 u3 u4 k0 k1 c1 c2 d1 d2 v0 v1 v2 v3 v4 a1 b1 a2 b2 ⟨⟨a3, a4⟩, b3, b4⟩
end Go.Proofs.YtfiffbohhhehkaaGreat
