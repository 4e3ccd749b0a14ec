/-
  Layer 18: SpoolCrash's walk.
-/
import Derived.Test.YtmilfamjkiemaaaGreatDoorSzBA
import Derived.Test.YtmilfamjkiemaaaGreatDoorSzBJ
import Derived.Test.YtmilfamjkiemaaaGreatDoorSzBK
import Derived.Test.YtmilfamjkiemaaaGreatDoorSzBL
import Derived.Deep.DeepCutAuto
import Derived.Deep.CutBlock
namespace Go.Proofs.YtmilfamjkiemaaaGreatDoor
open Go.RowKit
theorem opld {B : Nat} {CS : Array Value} {W : World} (k : Rg.Bk B CS.toList 35 W) (h : CS.size = 12) : (loadVar 35 ⟨B, 0, none⟩).run Tryz.prog W = .ok (.agg CS) W :=
  Rg.row_loadVar (CS := CS) k Tryz.underlying35 rfl (by rw [h]; kernel_rfl)
theorem eight (x : Int) : ∃ k : Int, 0 ≤ k ∧ k ≤ 7 ∧ wrap64 ((IntKind.u64.wrap x).tmod 8) = k := by
  have h : 0 ≤ IntKind.u64.wrap x := by rw [IntKind.wrap_u64]; omega
  refine ⟨IntKind.u64.wrap x % 8, by omega, by omega, ?_⟩
  rw [Int.tmod_eq_emod_of_nonneg h]
  unfold wrap64
  omega
set_option maxHeartbeats 20000000 in
set_option maxRecDepth 100000 in
theorem crash_walk (a : Option Addr) (ca : Nat) (l : List Spl.SOp) (hn : l.length ≤ 977343669106) (hfit : ∀ c ∈ l, SFits c) (c : Spl.SOp) (hc : SFits c) (kp : Int) (_ : -9223372036854775808 ≤ kp) (_ : kp ≤ 9223372036854775807) (w : World) (hrow : SRow0 w a l) (hw : Ok w) :
    Calls Tryz.prog 6 #[.slice a l.length ca, .agg (oc c).toArray, .int .i64 kp] w fun e w' => e = .returned (.bool true) ∧ Below w.heap.size w w' := by
  have HA : Hid (∀ W, Below w.heap.size w W → Calls Tryz.prog 9 #[] W fun e w' => e = .returned (.bool true) ∧ Below w.heap.size w w') := fun W hW => (sawake_any W (hw.below hW)).mono fun e w' ⟨h1, h2⟩ => ⟨h1, Rg.chain hW h2⟩
  have HU : Hid (l.length ≤ 60 → ∀ W, Below w.heap.size w W → Calls Tryz.prog 26 #[.slice a l.length ca] W fun e w' => FullPost l.length W e w') := fun hl W hW => full_any a ca l hl hfit W (hrow.below hW) (hw.below hW)
  have hlm : Hid (l.length ≤ 977343669106) := by show _ ≤ _; omega
  replace hrow := Rg.hid hrow
  replace hfit := Rg.hid hfit
  replace hc := Rg.hid hc
  replace hw := Rg.hid hw
  obtain ⟨N, hN⟩ : ∃ N, N = l.length := ⟨_, rfl⟩
  rw [← hN] at HU hlm ⊢
  replace hN := Rg.hid hN
  clear hn
  obtain ⟨ck, cs, ⟨jg, jn, jk, ju, jf, jt, jc, jz⟩, cx, cm⟩ := c
  unfold oc
  dsimp only
  have kO0 : Hid (Rg.Bk w.heap.size [.int .i64 ck, .string cs, .int .i64 jg, .int .i64 jn, .int .i64 jk, .string ju, .string jf, .string jt, .string jc, .int .i64 jz, .string cx, .int .i64 cm] 35 (w.alloc (.cells #[.int .i64 ck, .string cs, .int .i64 jg, .int .i64 jn, .int .i64 jk, .string ju, .string jf, .string jt, .string jc, .int .i64 jz, .string cx, .int .i64 cm] 35))) := Rg.Bk.new rfl
  have hb0 := Rg.hid (Rg.al1 w (.cells #[.int .i64 ck, .string cs, .int .i64 jg, .int .i64 jn, .int .i64 jk, .string ju, .string jf, .string jt, .string jc, .int .i64 jz, .string cx, .int .i64 cm] 35))
  go_enter Tryz.func6, Tryz.ntmps6
  go_upto_region 1 with fail
  generalize World.alloc _ _ = w1 at *
  obtain ⟨Q, hQ⟩ : ∃ Q, Q = w.heap.size := ⟨_, rfl⟩
  rw [← hQ] at kO0 ⊢
  clear hQ
  have kOw1 := kO0
  go_cut [30] from 24 to 30 (fun s30 wx => ∃ B, s30 = .bool B ∧ Hid (B = false → N + 1 ≤ 60) ∧ Hid (Rg.Bk Q [.int .i64 ck, .string cs, .int .i64 jg, .int .i64 jn, .int .i64 jk, .string ju, .string jf, .string jt, .string jc, .int .i64 jz, .string cx, .int .i64 cm] 35 wx) ∧ Hid (Below w.heap.size w wx))
  case first =>
    refine Rg.beginL (fun (w' : World) => Rg.Bk Q [.int .i64 ck, .string cs, .int .i64 jg, .int .i64 jn, .int .i64 jk, .string ju, .string jf, .string jt, .string jc, .int .i64 jz, .string cx, .int .i64 cm] 35 w') [] (by kernel_rfl) ?_ (fun hH0 => ?_)
    · exact kO0.out.drew
    refine Rg.tlq 1 (some 25) ?_
    refine Rg.tlv 3 (some 27) (.agg #[.int .i64 ck, .string cs, .int .i64 jg, .int .i64 jn, .int .i64 jk, .string ju, .string jf, .string jt, .string jc, .int .i64 jz, .string cx, .int .i64 cm]) (fun w hSw => Rg.xload _ _ rfl rfl (opld (CS := #[.int .i64 ck, .string cs, .int .i64 jg, .int .i64 jn, .int .i64 jk, .string ju, .string jf, .string jt, .string jc, .int .i64 jz, .string cx, .int .i64 cm]) hSw rfl)) ?_
    have hll : Hid (l.length ≤ 977343669106) := by show _ ≤ _; rw [← hN.out]; exact hlm.out
    have hlx : Hid (l.length + 1 ≤ maxLen) := by show _ ≤ _; have := hll.out; unfold maxLen; omega
    refine Rg.AnyL.two 0 4 (o := { dst := some 24, op := _, type := _, pos := _, after := _, guard := _ }) (p := { dst := some 28, op := _, type := _, pos := _, after := _, guard := _ }) (by decide) (by decide) (fun K hK => ?_) (fun K hK => ?_)
    · go_simp
      have ownw2 : Hid (sopE.Own w1.heap.size (w1.alloc (.cells #[] 35)).drew w1.heap.size 0 [] []) := (own0 sopE w1).drew
      have kOw2 : Hid (Rg.Bk Q [.int .i64 ck, .string cs, .int .i64 jg, .int .i64 jn, .int .i64 jk, .string ju, .string jf, .string jt, .string jc, .int .i64 jz, .string cx, .int .i64 cm] 35 (w1.alloc (.cells #[] 35)).drew) := (kOw1.out.old _).drew
      have bw2 : Below w1.heap.size w1 (w1.alloc (.cells #[] 35)).drew := (Rg.al1 w1 (.cells #[] 35)).drew
      have hszw2 : Hid (w1.heap.size ≤ ((w1.alloc (.cells #[] 35)).drew : World).heap.size) := bw2.size
      have bbw2 := Rg.hid bw2
      have hQb : Hid (Q < w1.heap.size) := kOw1.out.lt
      have hbase : Hid (w1.heap.size ≤ w1.heap.size) := Nat.le_refl _
      refine hK.out _ _ ?_ (fun hH1 => ?_)
      · exact kOw2.out
      clear hK K hH0
      try simp only [Act.put]
      generalize World.drew _ = w2 at *
      refine Rg.AnyL.two 2 4 (o := { dst := some 26, op := _, type := _, pos := _, after := _, guard := _ }) (p := { dst := some 28, op := _, type := _, pos := _, after := _, guard := _ }) (by decide) (by decide) (fun K hK => ?_) (fun K hK => ?_)
      · obtain ⟨gw3, capw3, restw3, w3, hapw3, ownw3, bw3, keepw3⟩ := sop_app1 ownw2.out a ca l (hrow.out.below (Rg.chain hb0.out bbw2.out)) hszw2.out hll.out
        rw [← hN.out] at hapw3
        refine Rg.step_append_run rfl (.tmp 24) (.tmp 25) 22 rfl _ _ rfl rfl hapw3 ?_
        have kOw3 := Rg.hid (kOw2.out.below bw3 hQb.out)
        have bbw3 : Hid (Below w1.heap.size w1 w3) := bbw2.out.trans (bw3.mono hbase.out)
        have hszw3 := Rg.hid (Nat.le_trans hszw2.out bw3.size)
        replace ownw3 := Rg.hid ownw3
        refine hK.out _ _ ?_ (fun hH2 => ?_)
        · exact kOw3.out
        clear hK K hH1
        try simp only [Act.put]
        refine Rg.AnyL.one 4 (o := { dst := some 28, op := _, type := _, pos := _, after := _, guard := _ }) (by decide) (fun K hK => ?_)
        go_simp
        have kOw4 : Hid (Rg.Bk Q [.int .i64 ck, .string cs, .int .i64 jg, .int .i64 jn, .int .i64 jk, .string ju, .string jf, .string jt, .string jc, .int .i64 jz, .string cx, .int .i64 cm] 35 (w3.alloc (.cells #[.int .i64 ck, .string cs, .int .i64 jg, .int .i64 jn, .int .i64 jk, .string ju, .string jf, .string jt, .string jc, .int .i64 jz, .string cx, .int .i64 cm] 35))) := (kOw3.out.old _)
        have hat : Hid (Rg.At (w3.alloc (.cells #[.int .i64 ck, .string cs, .int .i64 jg, .int .i64 jn, .int .i64 jk, .string ju, .string jf, .string jt, .string jc, .int .i64 jz, .string cx, .int .i64 cm] 35)) w3.heap.size 0 (sopE.enc ⟨ck, cs, ⟨jg, jn, jk, ju, jf, jt, jc, jz⟩, cx, cm⟩)) := by
          have kb : Rg.Bk w3.heap.size [.int .i64 ck, .string cs, .int .i64 jg, .int .i64 jn, .int .i64 jk, .string ju, .string jf, .string jt, .string jc, .int .i64 jz, .string cx, .int .i64 cm] 35 (w3.alloc (.cells #[.int .i64 ck, .string cs, .int .i64 jg, .int .i64 jn, .int .i64 jk, .string ju, .string jf, .string jt, .string jc, .int .i64 jz, .string cx, .int .i64 cm] 35)) := Rg.Bk.new rfl
          refine Rg.hid fun t u ht => ?_
          rw [Nat.zero_add, show ((w3.alloc (.cells #[.int .i64 ck, .string cs, .int .i64 jg, .int .i64 jn, .int .i64 jk, .string ju, .string jf, .string jt, .string jc, .int .i64 jz, .string cx, .int .i64 cm] 35)) : World).cell? ⟨w3.heap.size, t, none⟩ = (w3.alloc (.cells #[.int .i64 ck, .string cs, .int .i64 jg, .int .i64 jn, .int .i64 jk, .string ju, .string jf, .string jt, .string jc, .int .i64 jz, .string cx, .int .i64 cm] 35)).cell? ⟨w3.heap.size, t, none⟩ from rfl, kb.cell, ← ht]
          rfl
        have bw4 : Below w3.heap.size w3 (w3.alloc (.cells #[.int .i64 ck, .string cs, .int .i64 jg, .int .i64 jn, .int .i64 jk, .string ju, .string jf, .string jt, .string jc, .int .i64 jz, .string cx, .int .i64 cm] 35)) := (Rg.al1 w3 (.cells #[.int .i64 ck, .string cs, .int .i64 jg, .int .i64 jn, .int .i64 jk, .string ju, .string jf, .string jt, .string jc, .int .i64 jz, .string cx, .int .i64 cm] 35))
        have ownw4 := Rg.hid (ownw3.out.below bw4)
        have hszw4 : Hid (_ ≤ ((w3.alloc (.cells #[.int .i64 ck, .string cs, .int .i64 jg, .int .i64 jn, .int .i64 jk, .string ju, .string jf, .string jt, .string jc, .int .i64 jz, .string cx, .int .i64 cm] 35)) : World).heap.size) := Nat.le_trans hszw3.out bw4.size
        have bbw4 := Rg.hid (Rg.chain bbw3.out bw4)
        have hcl : Hid (w3.heap.size < ((w3.alloc (.cells #[.int .i64 ck, .string cs, .int .i64 jg, .int .i64 jn, .int .i64 jk, .string ju, .string jf, .string jt, .string jc, .int .i64 jz, .string cx, .int .i64 cm] 35)) : World).heap.size) := by show _ < _; simp
        refine hK.out _ _ ?_ (fun hH3 => ?_)
        · exact kOw4.out
        clear hK K hH2
        try simp only [Act.put]
        obtain ⟨cb, hcb⟩ : ∃ cb, cb = w3.heap.size := ⟨_, rfl⟩
        rw [← hcb] at hat hcl ⊢
        have hcw : Hid (w3.heap.size ≤ cb) := Nat.le_of_eq hcb.symm
        clear hcb
        generalize World.alloc _ _ = w4 at *
        refine Rg.AnyL.one 5 (o := { dst := some 29, op := _, type := _, pos := _, after := _, guard := _ }) (by decide) (fun K hK => ?_)
        obtain ⟨g5, cap5, rest5, w5, hap5, own5, b5⟩ := sop_app2 ownw4.out ⟨ck, cs, ⟨jg, jn, jk, ju, jf, jt, jc, jz⟩, cx, cm⟩ cb hat.out hszw4.out hll.out
        rw [← hN.out] at hap5
        refine Rg.step_append_run rfl (.tmp 26) (.tmp 28) 22 rfl _ _ rfl rfl hap5 ?_
        have kO5 := Rg.hid (kOw4.out.below b5 hQb.out)
        have bb5 : Hid (Below w1.heap.size w1 w5) := bbw4.out.trans (b5.mono hbase.out)
        refine hK.out _ _ ?_ (fun hH5 => ?_)
        · exact kO5.out
        clear hK K hH3
        try simp only [Act.put]
        refine Rg.AnyL.one 6 (o := { dst := some 30, op := _, type := _, pos := _, after := _, guard := _ }) (by decide) (fun K hK => ?_)
        have hfar := Rg.hid (far_more own5 hfit.out hc.out hlx.out)
        rw [← hN.out] at hfar
        go_simp
        go_at_call 8
        refine hfar.out.mono ?_
        rintro e w6 ⟨B, rfl, hB, b6⟩
        have kO6 := Rg.hid (kO5.out.below b6.out kO5.out.lt)
        refine hK.out _ _ ?_ (fun hH6 => ?_)
        · exact kO6.out
        clear hK K hH5
        try simp only [Act.put]
        refine Rg.AnyL.done ?_
        go_wp2_with fail
        go_meet
        exact ⟨B, rfl, hB, kO6, Rg.hid (Rg.chain (Rg.chain hb0.out bb5.out) b6.out)⟩
      · go_simp
        have kOw3 : Hid (Rg.Bk Q [.int .i64 ck, .string cs, .int .i64 jg, .int .i64 jn, .int .i64 jk, .string ju, .string jf, .string jt, .string jc, .int .i64 jz, .string cx, .int .i64 cm] 35 (w2.alloc (.cells #[.int .i64 ck, .string cs, .int .i64 jg, .int .i64 jn, .int .i64 jk, .string ju, .string jf, .string jt, .string jc, .int .i64 jz, .string cx, .int .i64 cm] 35))) := (kOw2.out.old _)
        have hat : Hid (Rg.At (w2.alloc (.cells #[.int .i64 ck, .string cs, .int .i64 jg, .int .i64 jn, .int .i64 jk, .string ju, .string jf, .string jt, .string jc, .int .i64 jz, .string cx, .int .i64 cm] 35)) w2.heap.size 0 (sopE.enc ⟨ck, cs, ⟨jg, jn, jk, ju, jf, jt, jc, jz⟩, cx, cm⟩)) := by
          have kb : Rg.Bk w2.heap.size [.int .i64 ck, .string cs, .int .i64 jg, .int .i64 jn, .int .i64 jk, .string ju, .string jf, .string jt, .string jc, .int .i64 jz, .string cx, .int .i64 cm] 35 (w2.alloc (.cells #[.int .i64 ck, .string cs, .int .i64 jg, .int .i64 jn, .int .i64 jk, .string ju, .string jf, .string jt, .string jc, .int .i64 jz, .string cx, .int .i64 cm] 35)) := Rg.Bk.new rfl
          refine Rg.hid fun t u ht => ?_
          rw [Nat.zero_add, show ((w2.alloc (.cells #[.int .i64 ck, .string cs, .int .i64 jg, .int .i64 jn, .int .i64 jk, .string ju, .string jf, .string jt, .string jc, .int .i64 jz, .string cx, .int .i64 cm] 35)) : World).cell? ⟨w2.heap.size, t, none⟩ = (w2.alloc (.cells #[.int .i64 ck, .string cs, .int .i64 jg, .int .i64 jn, .int .i64 jk, .string ju, .string jf, .string jt, .string jc, .int .i64 jz, .string cx, .int .i64 cm] 35)).cell? ⟨w2.heap.size, t, none⟩ from rfl, kb.cell, ← ht]
          rfl
        have bw3 : Below w2.heap.size w2 (w2.alloc (.cells #[.int .i64 ck, .string cs, .int .i64 jg, .int .i64 jn, .int .i64 jk, .string ju, .string jf, .string jt, .string jc, .int .i64 jz, .string cx, .int .i64 cm] 35)) := (Rg.al1 w2 (.cells #[.int .i64 ck, .string cs, .int .i64 jg, .int .i64 jn, .int .i64 jk, .string ju, .string jf, .string jt, .string jc, .int .i64 jz, .string cx, .int .i64 cm] 35))
        have ownw3 := Rg.hid (ownw2.out.below bw3)
        have hszw3 : Hid (_ ≤ ((w2.alloc (.cells #[.int .i64 ck, .string cs, .int .i64 jg, .int .i64 jn, .int .i64 jk, .string ju, .string jf, .string jt, .string jc, .int .i64 jz, .string cx, .int .i64 cm] 35)) : World).heap.size) := Nat.le_trans hszw2.out bw3.size
        have bbw3 := Rg.hid (Rg.chain bbw2.out bw3)
        have hcl : Hid (w2.heap.size < ((w2.alloc (.cells #[.int .i64 ck, .string cs, .int .i64 jg, .int .i64 jn, .int .i64 jk, .string ju, .string jf, .string jt, .string jc, .int .i64 jz, .string cx, .int .i64 cm] 35)) : World).heap.size) := by show _ < _; simp
        refine hK.out _ _ ?_ (fun hH2 => ?_)
        · exact kOw3.out
        clear hK K hH1
        try simp only [Act.put]
        obtain ⟨cb, hcb⟩ : ∃ cb, cb = w2.heap.size := ⟨_, rfl⟩
        rw [← hcb] at hat hcl ⊢
        have hcw : Hid (w2.heap.size ≤ cb) := Nat.le_of_eq hcb.symm
        clear hcb
        generalize World.alloc _ _ = w3 at *
        have ncg : Hid (cb ≠ w1.heap.size) := by
          have h1 := hcw.out
          have h2 := ownw2.out.lt
          show _ ≠ _
          omega
        refine Rg.AnyL.one 2 (o := { dst := some 26, op := _, type := _, pos := _, after := _, guard := _ }) (by decide) (fun K hK => ?_)
        obtain ⟨gw4, capw4, restw4, w4, hapw4, ownw4, bw4, keepw4⟩ := sop_app1 ownw3.out a ca l (hrow.out.below (Rg.chain hb0.out bbw3.out)) hszw3.out hll.out
        rw [← hN.out] at hapw4
        refine Rg.step_append_run rfl (.tmp 24) (.tmp 25) 22 rfl _ _ rfl rfl hapw4 ?_
        have kOw4 := Rg.hid (kOw3.out.below bw4 hQb.out)
        have bbw4 : Hid (Below w1.heap.size w1 w4) := bbw3.out.trans (bw4.mono hbase.out)
        have hszw4 := Rg.hid (Nat.le_trans hszw3.out bw4.size)
        replace ownw4 := Rg.hid ownw4
        refine hK.out _ _ ?_ (fun hH3 => ?_)
        · exact kOw4.out
        clear hK K hH2
        try simp only [Act.put]
        replace hat := Rg.hid (hat.out.same (keepw4 cb hcl.out ncg.out))
        refine Rg.AnyL.one 5 (o := { dst := some 29, op := _, type := _, pos := _, after := _, guard := _ }) (by decide) (fun K hK => ?_)
        obtain ⟨g5, cap5, rest5, w5, hap5, own5, b5⟩ := sop_app2 ownw4.out ⟨ck, cs, ⟨jg, jn, jk, ju, jf, jt, jc, jz⟩, cx, cm⟩ cb hat.out hszw4.out hll.out
        rw [← hN.out] at hap5
        refine Rg.step_append_run rfl (.tmp 26) (.tmp 28) 22 rfl _ _ rfl rfl hap5 ?_
        have kO5 := Rg.hid (kOw4.out.below b5 hQb.out)
        have bb5 : Hid (Below w1.heap.size w1 w5) := bbw4.out.trans (b5.mono hbase.out)
        refine hK.out _ _ ?_ (fun hH5 => ?_)
        · exact kO5.out
        clear hK K hH3
        try simp only [Act.put]
        refine Rg.AnyL.one 6 (o := { dst := some 30, op := _, type := _, pos := _, after := _, guard := _ }) (by decide) (fun K hK => ?_)
        have hfar := Rg.hid (far_more own5 hfit.out hc.out hlx.out)
        rw [← hN.out] at hfar
        go_simp
        go_at_call 8
        refine hfar.out.mono ?_
        rintro e w6 ⟨B, rfl, hB, b6⟩
        have kO6 := Rg.hid (kO5.out.below b6.out kO5.out.lt)
        refine hK.out _ _ ?_ (fun hH6 => ?_)
        · exact kO6.out
        clear hK K hH5
        try simp only [Act.put]
        refine Rg.AnyL.done ?_
        go_wp2_with fail
        go_meet
        exact ⟨B, rfl, hB, kO6, Rg.hid (Rg.chain (Rg.chain hb0.out bb5.out) b6.out)⟩
    · have bbw1 : Hid (Below w1.heap.size w1 w1) := Rg.hid (Below.refl _ _)
      go_simp
      have kOw2 : Hid (Rg.Bk Q [.int .i64 ck, .string cs, .int .i64 jg, .int .i64 jn, .int .i64 jk, .string ju, .string jf, .string jt, .string jc, .int .i64 jz, .string cx, .int .i64 cm] 35 (w1.alloc (.cells #[.int .i64 ck, .string cs, .int .i64 jg, .int .i64 jn, .int .i64 jk, .string ju, .string jf, .string jt, .string jc, .int .i64 jz, .string cx, .int .i64 cm] 35)).drew) := (kOw1.out.old _).drew
      have hat : Hid (Rg.At (w1.alloc (.cells #[.int .i64 ck, .string cs, .int .i64 jg, .int .i64 jn, .int .i64 jk, .string ju, .string jf, .string jt, .string jc, .int .i64 jz, .string cx, .int .i64 cm] 35)).drew w1.heap.size 0 (sopE.enc ⟨ck, cs, ⟨jg, jn, jk, ju, jf, jt, jc, jz⟩, cx, cm⟩)) := by
        have kb : Rg.Bk w1.heap.size [.int .i64 ck, .string cs, .int .i64 jg, .int .i64 jn, .int .i64 jk, .string ju, .string jf, .string jt, .string jc, .int .i64 jz, .string cx, .int .i64 cm] 35 (w1.alloc (.cells #[.int .i64 ck, .string cs, .int .i64 jg, .int .i64 jn, .int .i64 jk, .string ju, .string jf, .string jt, .string jc, .int .i64 jz, .string cx, .int .i64 cm] 35)) := Rg.Bk.new rfl
        refine Rg.hid fun t u ht => ?_
        rw [Nat.zero_add, show ((w1.alloc (.cells #[.int .i64 ck, .string cs, .int .i64 jg, .int .i64 jn, .int .i64 jk, .string ju, .string jf, .string jt, .string jc, .int .i64 jz, .string cx, .int .i64 cm] 35)).drew : World).cell? ⟨w1.heap.size, t, none⟩ = (w1.alloc (.cells #[.int .i64 ck, .string cs, .int .i64 jg, .int .i64 jn, .int .i64 jk, .string ju, .string jf, .string jt, .string jc, .int .i64 jz, .string cx, .int .i64 cm] 35)).cell? ⟨w1.heap.size, t, none⟩ from rfl, kb.cell, ← ht]
        rfl
      have bw2 : Below w1.heap.size w1 (w1.alloc (.cells #[.int .i64 ck, .string cs, .int .i64 jg, .int .i64 jn, .int .i64 jk, .string ju, .string jf, .string jt, .string jc, .int .i64 jz, .string cx, .int .i64 cm] 35)).drew := (Rg.al1 w1 (.cells #[.int .i64 ck, .string cs, .int .i64 jg, .int .i64 jn, .int .i64 jk, .string ju, .string jf, .string jt, .string jc, .int .i64 jz, .string cx, .int .i64 cm] 35)).drew
      have bbw2 := Rg.hid bw2
      have hcl : Hid (w1.heap.size < ((w1.alloc (.cells #[.int .i64 ck, .string cs, .int .i64 jg, .int .i64 jn, .int .i64 jk, .string ju, .string jf, .string jt, .string jc, .int .i64 jz, .string cx, .int .i64 cm] 35)).drew : World).heap.size) := by show _ < _; simp
      refine hK.out _ _ ?_ (fun hH1 => ?_)
      · exact kOw2.out
      clear hK K hH0
      try simp only [Act.put]
      obtain ⟨cb, hcb⟩ : ∃ cb, cb = w1.heap.size := ⟨_, rfl⟩
      rw [← hcb] at hat hcl ⊢
      have hcw : Hid (w1.heap.size ≤ cb) := Nat.le_of_eq hcb.symm
      clear hcb
      generalize World.drew _ = w2 at *
      refine Rg.AnyL.one 0 (o := { dst := some 24, op := _, type := _, pos := _, after := _, guard := _ }) (by decide) (fun K hK => ?_)
      go_simp
      have ownw3 : Hid (sopE.Own w2.heap.size (w2.alloc (.cells #[] 35)) w2.heap.size 0 [] []) := (own0 sopE w2)
      have kOw3 : Hid (Rg.Bk Q [.int .i64 ck, .string cs, .int .i64 jg, .int .i64 jn, .int .i64 jk, .string ju, .string jf, .string jt, .string jc, .int .i64 jz, .string cx, .int .i64 cm] 35 (w2.alloc (.cells #[] 35))) := (kOw2.out.old _)
      have bw3 : Below w2.heap.size w2 (w2.alloc (.cells #[] 35)) := (Rg.al1 w2 (.cells #[] 35))
      have hszw3 : Hid (w2.heap.size ≤ ((w2.alloc (.cells #[] 35)) : World).heap.size) := bw3.size
      have bbw3 := Rg.hid (Rg.chain bbw2.out bw3)
      have hQb : Hid (Q < w2.heap.size) := kOw2.out.lt
      have hbase : Hid (w1.heap.size ≤ w2.heap.size) := bbw2.out.size
      replace hat := Rg.hid (hat.out.below bw3 hcl.out)
      have hcB : Hid (cb < w2.heap.size) := hcl.out
      refine hK.out _ _ ?_ (fun hH2 => ?_)
      · exact kOw3.out
      clear hK K hH1
      try simp only [Act.put]
      generalize World.alloc _ _ = w3 at *
      refine Rg.AnyL.one 2 (o := { dst := some 26, op := _, type := _, pos := _, after := _, guard := _ }) (by decide) (fun K hK => ?_)
      obtain ⟨gw4, capw4, restw4, w4, hapw4, ownw4, bw4, keepw4⟩ := sop_app1 ownw3.out a ca l (hrow.out.below (Rg.chain hb0.out bbw3.out)) hszw3.out hll.out
      rw [← hN.out] at hapw4
      refine Rg.step_append_run rfl (.tmp 24) (.tmp 25) 22 rfl _ _ rfl rfl hapw4 ?_
      have kOw4 := Rg.hid (kOw3.out.below bw4 hQb.out)
      have bbw4 : Hid (Below w1.heap.size w1 w4) := bbw3.out.trans (bw4.mono hbase.out)
      have hszw4 := Rg.hid (Nat.le_trans hszw3.out bw4.size)
      replace ownw4 := Rg.hid ownw4
      refine hK.out _ _ ?_ (fun hH3 => ?_)
      · exact kOw4.out
      clear hK K hH2
      try simp only [Act.put]
      replace hat := Rg.hid (hat.out.below bw4 hcB.out)
      refine Rg.AnyL.one 5 (o := { dst := some 29, op := _, type := _, pos := _, after := _, guard := _ }) (by decide) (fun K hK => ?_)
      obtain ⟨g5, cap5, rest5, w5, hap5, own5, b5⟩ := sop_app2 ownw4.out ⟨ck, cs, ⟨jg, jn, jk, ju, jf, jt, jc, jz⟩, cx, cm⟩ cb hat.out hszw4.out hll.out
      rw [← hN.out] at hap5
      refine Rg.step_append_run rfl (.tmp 26) (.tmp 28) 22 rfl _ _ rfl rfl hap5 ?_
      have kO5 := Rg.hid (kOw4.out.below b5 hQb.out)
      have bb5 : Hid (Below w1.heap.size w1 w5) := bbw4.out.trans (b5.mono hbase.out)
      refine hK.out _ _ ?_ (fun hH5 => ?_)
      · exact kO5.out
      clear hK K hH3
      try simp only [Act.put]
      refine Rg.AnyL.one 6 (o := { dst := some 30, op := _, type := _, pos := _, after := _, guard := _ }) (by decide) (fun K hK => ?_)
      have hfar := Rg.hid (far_more own5 hfit.out hc.out hlx.out)
      rw [← hN.out] at hfar
      go_simp
      go_at_call 8
      refine hfar.out.mono ?_
      rintro e w6 ⟨B, rfl, hB, b6⟩
      have kO6 := Rg.hid (kO5.out.below b6.out kO5.out.lt)
      refine hK.out _ _ ?_ (fun hH6 => ?_)
      · exact kO6.out
      clear hK K hH5
      try simp only [Act.put]
      refine Rg.AnyL.done ?_
      go_wp2_with fail
      go_meet
      exact ⟨B, rfl, hB, kO6, Rg.hid (Rg.chain (Rg.chain hb0.out bb5.out) b6.out)⟩
  case rest =>
    obtain ⟨B, rfl, hB, kO1, hb1⟩ := hcut
    clear kO0 hb0 kOw1
    cases B
    case true =>
      go_wp2_with (go_at_call 9; refine (HA.out _ hb1.out).mono ?_; rintro e w2 ⟨rfl, b2⟩)
      go_ret
      exact ⟨rfl, b2⟩
    have hlen : N + 1 ≤ 60 := hB.out rfl
    replace HU := Rg.hid (HU.out (by omega))
    clear hB hrow hfit hlm hN
    unfold FullPost at HU
    generalize wc = w1 at *
    go_upto_region 4 with (first | (go_at_call 26; refine (HU.out _ hb1.out).mono ?_; rintro e w2 ⟨CS, A, cap, d, ws, rfl, a2, r2, b2, hI, hwn⟩; obtain ⟨w4, st4, k4, o4⟩ := (show DB w2.heap.size zcD zdk (w2.alloc (.cells #[.slice none 0 0, .slice none 0 0, .int .i64 0, .int .i64 0, .bool false] 28)) from ⟨Rg.Bk.new rfl, zdk_at _⟩).st (a2.out.below (Rg.al1 w2 (.cells #[.slice none 0 0, .slice none 0 0, .int .i64 0, .int .i64 0, .bool false] 28)))) | (with_reducible refine Rg.isst (.tmp 7) (.tmp 35) 28 ?_; refine Rg.lst (.tmp 7) (.tmp 35) 28 rfl rfl st4 ?_))
    have hcap : Hid (ws.length ≤ cap) := r2.out.2
    have hm6 : Hid (N * 6300 ≤ 1000000) := by show _ ≤ _; omega
    have hrow := Rg.hid (held_onlyB (r2.out.1.below (Rg.al1 w2 (.cells #[.slice none 0 0, .slice none 0 0, .int .i64 0, .int .i64 0, .bool false] 28))) (show DB w2.heap.size zcD zdk (w2.alloc (.cells #[.slice none 0 0, .slice none 0 0, .int .i64 0, .int .i64 0, .bool false] 28)) from ⟨Rg.Bk.new rfl, zdk_at _⟩) o4)
    have b24 : Below w2.heap.size w2 w4 := (Rg.al1 w2 (.cells #[.slice none 0 0, .slice none 0 0, .int .i64 0, .int .i64 0, .bool false] 28)).trans (o4.bel (Nat.le_refl _))
    have hb4 := Rg.hid (Rg.chain (Rg.chain hb1.out b2.out) b24)
    have kO4 := Rg.hid ((kO1.out.below b2.out kO1.out.lt).below b24 (Nat.lt_of_lt_of_le kO1.out.lt b2.out.size))
    have nQX0 : Q ≠ w2.heap.size := Nat.ne_of_lt (Nat.lt_of_lt_of_le kO1.out.lt b2.out.size)
    have hXw0 : w.heap.size ≤ w2.heap.size := (Rg.chain hb1.out b2.out).size
    have kX := Rg.hid k4
    obtain ⟨X, hX⟩ : ∃ X, X = w2.heap.size := ⟨_, rfl⟩
    rw [← hX] at kX hXw0 nQX0 ⊢
    have hXw := Rg.hid hXw0
    have nQX := Rg.hid nQX0
    clear hX hXw0 nQX0 st4 k4 o4 a2 r2 b2 b24 hb1 kO1 HU
    obtain ⟨M, hM⟩ : ∃ M, M = ws.length := ⟨_, rfl⟩
    rw [← hM] at hwn hcap ⊢
    replace hM := Rg.hid hM
    have hmn : M ≤ N := hwn.out
    clear hwn
    have o11 : w4.cell? ⟨Q, 11, none⟩ = some (.int .i64 cm) := kO4.out.cell 11
    go_upto_region 5 with fail
    obtain ⟨f, hf0, hf1, ef⟩ := eight cm
    rw [ef]
    clear ef o11
    have HM : Hid (∀ W, DAt W (.agg CS) d → Calls Tryz.prog 29 #[.agg CS, .int .i64 f] W fun e w' => ∃ CS', e = .returned (.agg CS') ∧ Hid (DAt w' (.agg CS') (Dsk.arm d f)) ∧ Hid (Below W.heap.size W w')) := fun W hv => (arm_any _ d f W hv).mono fun e w' ⟨v, h1, h2, h3⟩ => by
      obtain ⟨CS', rfl⟩ := h2.agg
      exact ⟨CS', h1, h2, h3⟩
    have hlD := Rg.hid kX.out.ld
    go_upto_region 6 with (first | (with_reducible refine Rg.isld (.tmp 7) 28 ?_; refine Rg.lld (.tmp 7) 28 rfl hlD.out ?_) | (go_at_call 29; refine (HM.out _ kX.out.dt).mono ?_; rintro e w5 ⟨CS1, rfl, a5, b5⟩; obtain ⟨w6, st6, k6, o6⟩ := (kX.out.below b5.out).st a5.out) | (with_reducible refine Rg.isst (.tmp 7) (.tmp 44) 28 ?_; refine Rg.lst (.tmp 7) (.tmp 44) 28 rfl rfl st6 ?_))
    have kX6 := Rg.hid k6
    have hrow6 := Rg.hid (held_onlyB (hrow.out.below b5.out) (kX.out.below b5.out) o6)
    have kO6 := Rg.hid ((kO4.out.below b5.out kO4.out.lt).same (o6.block Q nQX.out))
    have hb6 := Rg.hid ((Rg.chain hb4.out b5.out).trans (o6.bel hXw.out))
    clear k6 o6 st6 a5 b5 kX hrow kO4 hb4 hlD HM
    have bW := Rg.al1 w6 (.cells #[.string ⟨#[]⟩, .int .i64 0, .int .i64 0, .int .i64 0, .string ⟨#[]⟩, .string ⟨#[]⟩, .string ⟨#[]⟩, .string ⟨#[]⟩, .int .i64 0, .string ⟨#[]⟩] 42)
    have kW : Hid (Rg.Bk w6.heap.size [.string ⟨#[]⟩, .int .i64 0, .int .i64 0, .int .i64 0, .string ⟨#[]⟩, .string ⟨#[]⟩, .string ⟨#[]⟩, .string ⟨#[]⟩, .int .i64 0, .string ⟨#[]⟩] 42 (w6.alloc (.cells #[.string ⟨#[]⟩, .int .i64 0, .int .i64 0, .int .i64 0, .string ⟨#[]⟩, .string ⟨#[]⟩, .string ⟨#[]⟩, .string ⟨#[]⟩, .int .i64 0, .string ⟨#[]⟩] 42))) := Rg.Bk.new rfl
    have hfr : Hid (∀ W', Below w6.heap.size (w6.alloc (.cells #[.string ⟨#[]⟩, .int .i64 0, .int .i64 0, .int .i64 0, .string ⟨#[]⟩, .string ⟨#[]⟩, .string ⟨#[]⟩, .string ⟨#[]⟩, .int .i64 0, .string ⟨#[]⟩] 42)) W' → DB X CS1 (Dsk.arm d f) W' ∧ heldE.Row W' A ws) := fun W' b => ⟨kX6.out.below (bW.trans b), hrow6.out.below (bW.trans b)⟩
    have hAV : Hid (∀ b o s, A = some ⟨b, o, s⟩ → b < w6.heap.size) := fun b o s e => by
      rcases hrow6.out with ⟨q, _⟩ | ⟨b', o', q1, q2, _⟩
      · rw [q] at e; cases e
      · rw [q1] at e; injection e with e; injection e with e1; rw [← e1]; exact q2
    have kX7 := Rg.hid (kX6.out.below bW)
    have hrow7 := Rg.hid (hrow6.out.below bW)
    have kO7 := Rg.hid (kO6.out.below bW kO6.out.lt)
    have hb7 := Rg.hid (Rg.chain hb6.out bW)
    have nQW0 : Q ≠ w6.heap.size := Nat.ne_of_lt kO6.out.lt
    have nXW0 : X ≠ w6.heap.size := Nat.ne_of_lt kX6.out.lt
    have hWw0 : w.heap.size ≤ w6.heap.size := hb6.out.size
    clear kX6 hrow6 kO6 hb6 bW
    go_upto_block 0 with fail
    generalize World.alloc _ _ = w7 at *
    obtain ⟨V, hV⟩ : ∃ V, V = w6.heap.size := ⟨_, rfl⟩
    rw [← hV] at kW nQW0 nXW0 hWw0 hfr hAV ⊢
    have nQW := Rg.hid nQW0
    have nXW := Rg.hid nXW0
    have hWw := Rg.hid hWw0
    clear hV nQW0 nXW0 hWw0
    go_cut [8, 11] from 46 to 137 (fun s8 s11 wx => ∃ (A : Option Addr) (K cap : Nat) (mn : Bool) (CSx : Array Value) (dd : Dsk.Dk) (wz : List Spl.Hd) (own : Spl.Hd), s8 = .slice A K cap ∧ s11 = .bool mn ∧ K ≤ N ∧ Hid (K = wz.length) ∧ Hid (DB X CSx dd wx) ∧ Hid (Rg.Bk V (Go.Proofs.YtmilfamjkiemaaaGreatDoor.hc own) 42 wx) ∧ Hid (heldE.Row wx A wz) ∧ Hid (Below w.heap.size w wx) ∧ Hid (Dsk.Ok dd) ∧ Hid (∀ a ∈ wz, a.s.size ≤ maxLen) ∧ Hid (Spl.Fin (N * 6300 + 6300) (Dsk.start (Dsk.crash dd kp)) wz own mn))
    case first =>
      go_upto_region 14 with fail
      have o0 : w7.cell? ⟨Q, 0, none⟩ = some (.int .i64 ck) := kO7.out.cell 0
      by_cases hq : ck = 0 ∨ M = 0
      · go_cut [92] from 92 to 100 (fun s92 wx => s92 = .bool true ∧ w7 = wx)
        case first =>
          by_cases hc0 : ck = 0
          · have e0 : (ck == 0) = true := by simpa using hc0
            go_wp2_with fail
            go_meet
            exact ⟨rfl, rfl⟩
          · have e0 : (ck == 0) = false := by simpa using hc0
            have hM0 : M = 0 := by rcases hq with q | q; (· exact absurd q hc0); exact q
            have e1 : ((M : Int) == 0) = true := by rw [hM0]; rfl
            go_wp2_with fail
            go_meet
            exact ⟨rfl, rfl⟩
        obtain ⟨rfl, rfl⟩ := hcut
        clear o0 hq
        have hcq := hI.out.crashQ hm6.out hf0 hf1 cs ⟨jg, jn, jk, ju, jf, jt, jc, jz⟩ cx kp
        have hfq := (hI.out.fit.arm f (by omega)).queue hm6.out (s := cs) (j := ⟨jg, jn, jk, ju, jf, jt, jc, jz⟩) (x := cx)
        have hZ := Rg.hid hI.out.sz
        have HC : Hid (∀ W, Below w.heap.size w W → DAt W (.agg CS1) (Dsk.arm d f) → Calls Tryz.prog 18 #[.agg CS1, .string cs, .agg #[.int .i64 jg, .int .i64 jn, .int .i64 jk, .string ju, .string jf, .string jt, .string jc, .int .i64 jz], .string cx] W fun e w' => QPost (Spl.queue (Dsk.arm d f) cs ⟨jg, jn, jk, ju, jf, jt, jc, jz⟩ cx) W e w') := fun W hW hv => queue_any _ _ cs cx ⟨jg, jn, jk, ju, jf, jt, jc, jz⟩ W (hI.out.fit.arm f (by omega)) hm6.out ⟨hc.out.s, hc.out.u, hc.out.f, hc.out.t, hc.out.c⟩ hv (hw.out.below hW)
        unfold QPost at HC
        clear hI hfr
        generalize Spl.queue (Dsk.arm d f) cs ⟨jg, jn, jk, ju, jf, jt, jc, jz⟩ cx = rq at *
        obtain ⟨dd, ⟨gq, nq⟩, eq⟩ := rq
        dsimp only at HC hcq hfq
        have hok := Rg.hid hfq.sm.ok
        have hcl := Rg.hid hfq.sm.cl
        replace hcq := Rg.hid hcq
        clear hfq
        have kOq := kO7
        have hlD := Rg.hid kX7.out.ld
        go_upto_region 15 with fail
        have o1 : w7.cell? ⟨Q, 1, none⟩ = some (.string cs) := kOq.out.cell 1
        have o2 : w7.cell? ⟨Q, 2, none⟩ = some (.int .i64 jg) := kOq.out.cell 2
        have o3 : w7.cell? ⟨Q, 3, none⟩ = some (.int .i64 jn) := kOq.out.cell 3
        have o4 : w7.cell? ⟨Q, 4, none⟩ = some (.int .i64 jk) := kOq.out.cell 4
        have o5 : w7.cell? ⟨Q, 5, none⟩ = some (.string ju) := kOq.out.cell 5
        have o6 : w7.cell? ⟨Q, 6, none⟩ = some (.string jf) := kOq.out.cell 6
        have o7 : w7.cell? ⟨Q, 7, none⟩ = some (.string jt) := kOq.out.cell 7
        have o8 : w7.cell? ⟨Q, 8, none⟩ = some (.string jc) := kOq.out.cell 8
        have o9 : w7.cell? ⟨Q, 9, none⟩ = some (.int .i64 jz) := kOq.out.cell 9
        have o10 : w7.cell? ⟨Q, 10, none⟩ = some (.string cx) := kOq.out.cell 10
        go_upto_region 16 with (first | (with_reducible refine Rg.isld (.tmp 7) 28 ?_; refine Rg.lld (.tmp 7) 28 rfl hlD.out ?_) | (go_at_call 18; refine (HC.out _ hb7.out kX7.out.dt).mono ?_; rintro e w8 ⟨CSx, rfl, a8, b8⟩; obtain ⟨w9, st9, k9, oS9⟩ := (show DB w8.heap.size zcD zdk ((w8.alloc (.cells #[.slice none 0 0, .slice none 0 0, .int .i64 0, .int .i64 0, .bool false] 28)).alloc (.cells #[.int .i64 0, .int .i64 0] 31)) from DB.old ⟨Rg.Bk.new rfl, zdk_at _⟩ _).st (a8.out.below (Rg.al2 w8 (.cells #[.slice none 0 0, .slice none 0 0, .int .i64 0, .int .i64 0, .bool false] 28) (.cells #[.int .i64 0, .int .i64 0] 31))); obtain ⟨wA, stA, kA, oA⟩ := idst ((show Rg.Bk (w8.heap.size + 1) [.int .i64 0, .int .i64 0] 31 ((w8.alloc (.cells #[.slice none 0 0, .slice none 0 0, .int .i64 0, .int .i64 0, .bool false] 28)).alloc (.cells #[.int .i64 0, .int .i64 0] 31)) from Rg.Bk.new (by simp)).same (oS9.block (w8.heap.size + 1) (by omega))) rfl gq nq) | (with_reducible refine Rg.isst (.tmp 12) (.tmp 110) 28 ?_; refine Rg.lst (.tmp 12) (.tmp 110) 28 rfl rfl st9 ?_) | (with_reducible refine Rg.isst (.tmp 13) (.tmp 111) 31 ?_; refine Rg.lst (.tmp 13) (.tmp 111) 31 rfl rfl stA ?_))
        have hX8 : X < w8.heap.size := (kX7.out.below b8.out).lt
        have hV8 : V < w8.heap.size := Nat.lt_of_lt_of_le kW.out.lt b8.out.size
        have hQ8 : Q < w8.heap.size := Nat.lt_of_lt_of_le kOq.out.lt b8.out.size
        have kI9 : Rg.Bk (w8.heap.size + 1) [.int .i64 0, .int .i64 0] 31 w9 := (show Rg.Bk (w8.heap.size + 1) [.int .i64 0, .int .i64 0] 31 ((w8.alloc (.cells #[.slice none 0 0, .slice none 0 0, .int .i64 0, .int .i64 0, .bool false] 28)).alloc (.cells #[.int .i64 0, .int .i64 0] 31)) from Rg.Bk.new (by simp)).same (oS9.block (w8.heap.size + 1) (by omega))
        have b8A : Below w8.heap.size w8 wA := ((Rg.al2 w8 (.cells #[.slice none 0 0, .slice none 0 0, .int .i64 0, .int .i64 0, .bool false] 28) (.cells #[.int .i64 0, .int .i64 0] 31)).trans (oS9.bel (Nat.le_refl _))).trans (oA.bel (by omega))
        have kXA := Rg.hid ((kX7.out.below b8.out).below b8A)
        have kZA := Rg.hid (k9.onlyI kI9 (by omega) oA)
        have kYA := Rg.hid kA
        have kWA := Rg.hid ((kW.out.below b8.out kW.out.lt).below b8A hV8)
        have kOA := Rg.hid ((kOq.out.below b8.out kOq.out.lt).below b8A hQ8)
        have hrowA := Rg.hid ((hrow7.out.below b8.out).below b8A)
        have hbA := Rg.hid (Rg.chain (Rg.chain hb7.out b8.out) b8A)
        obtain ⟨Z, hZ8⟩ : ∃ Z, Z = w8.heap.size := ⟨_, rfl⟩
        obtain ⟨Yb, hY8⟩ : ∃ Yb, Yb = w8.heap.size + 1 := ⟨_, rfl⟩
        have nXZ : Hid (X ≠ Z) := by show _ ≠ _; omega
        have nXY : Hid (X ≠ Yb) := by show _ ≠ _; omega
        rw [← hY8] at kYA ⊢
        rw [← hZ8] at kZA ⊢
        clear hZ8 hY8 hX8 hV8 hQ8 kI9 b8A k9 kA oA oS9 st9 stA a8 b8 kX7 kW kOq kO7 hrow7 hb7 hlD HC o1 o2 o3 o4 o5 o6 o7 o8 o9 o10
        have x4 : wA.cell? ⟨Z, 4, none⟩ = some (.bool dd.down) := kZA.out.down
        by_cases hyes : eq ≠ 0 ∧ dd.down = false
        · have en : (eq != 0) = true := by rw [bne_iff_ne]; exact hyes.1
          rw [hyes.2] at x4
          clear hyes hcq
          go_wp2_with (go_at_call 9; refine (HA.out _ hbA.out).mono ?_; rintro e wB ⟨rfl, bB⟩)
          go_ret
          exact ⟨rfl, bB⟩
        go_cut [119] from 113 to 119 (fun s119 wx => s119 = .bool false ∧ wA = wx)
        case first =>
          by_cases c : eq = 0
          · have en : (eq != 0) = false := by rw [c]; rfl
            go_wp2_with fail
            go_meet
            exact ⟨rfl, rfl⟩
          · have en : (eq != 0) = true := by rw [bne_iff_ne]; exact c
            have hdn : dd.down = true := by
              cases hdn : dd.down
              · exact absurd ⟨c, hdn⟩ hyes
              · rfl
            rw [hdn] at x4
            go_wp2_with fail
            go_meet
            exact ⟨rfl, rfl⟩
        obtain ⟨rfl, rfl⟩ := hcut
        clear x4
        have hfin : Spl.Fin (N * 6300 + 6300) (Dsk.start (Dsk.crash dd kp)) ws ⟨cs, ⟨gq, nq, jk, ju, jf, jt, jc, (cx.size : Int)⟩, cx⟩ (decide (eq = 0)) := by
          rcases hcq.out with q | q
          · exact absurd q hyes
          · exact q.2
        clear hyes
        obtain ⟨mn, hmn0⟩ : ∃ mn, mn = decide (eq = 0) := ⟨_, rfl⟩
        rw [← hmn0] at hfin
        have e2 : (eq == 0) = mn := by rw [hmn0]; rfl
        replace hfin := Rg.hid hfin
        clear hmn0 hcq
        obtain ⟨K, rfl⟩ : ∃ K, K = M := ⟨_, rfl⟩
        obtain ⟨wz, rfl⟩ : ∃ wz, wz = ws := ⟨_, rfl⟩
        obtain ⟨wB, stB, kB, oB⟩ := kXA.out.st kZA.out.dt
        have kXB := Rg.hid kB
        have hrowB := Rg.hid (held_onlyB hrowA.out kXA.out oB)
        have kWB := Rg.hid (kWA.out.same (oB.block V nXW.out.symm))
        have kOB := Rg.hid (kOA.out.same (oB.block Q nQX.out))
        have kYB := Rg.hid (kYA.out.same (oB.block Yb nXY.out.symm))
        have hbB := Rg.hid (hbA.out.trans (oB.bel hXw.out))
        have hlZ := Rg.hid kZA.out.ld
        go_upto_region 19 with (first | (with_reducible refine Rg.isld (.tmp 12) 28 ?_; refine Rg.lld (.tmp 12) 28 rfl hlZ.out ?_) | (with_reducible refine Rg.isst (.tmp 7) (.tmp 121) 28 ?_; refine Rg.lst (.tmp 7) (.tmp 121) 28 rfl rfl stB ?_))
        clear stB kB oB hlZ kXA kZA kYA kWA kOA hrowA hbA
        have o1 : wB.cell? ⟨Q, 1, none⟩ = some (.string cs) := kOB.out.cell 1
        have o2 : wB.cell? ⟨Q, 2, none⟩ = some (.int .i64 jg) := kOB.out.cell 2
        have o3 : wB.cell? ⟨Q, 3, none⟩ = some (.int .i64 jn) := kOB.out.cell 3
        have o4 : wB.cell? ⟨Q, 4, none⟩ = some (.int .i64 jk) := kOB.out.cell 4
        have o5 : wB.cell? ⟨Q, 5, none⟩ = some (.string ju) := kOB.out.cell 5
        have o6 : wB.cell? ⟨Q, 6, none⟩ = some (.string jf) := kOB.out.cell 6
        have o7 : wB.cell? ⟨Q, 7, none⟩ = some (.string jt) := kOB.out.cell 7
        have o8 : wB.cell? ⟨Q, 8, none⟩ = some (.string jc) := kOB.out.cell 8
        have o9 : wB.cell? ⟨Q, 9, none⟩ = some (.int .i64 jz) := kOB.out.cell 9
        have o10 : wB.cell? ⟨Q, 10, none⟩ = some (.string cx) := kOB.out.cell 10
        have bJ := Rg.al1 wB (.cells #[.int .i64 jg, .int .i64 jn, .int .i64 jk, .string ju, .string jf, .string jt, .string jc, .int .i64 jz] 33)
        have kJ0 : Hid (Rg.Bk wB.heap.size (Go.Proofs.YtmilfamjkiemaaaGreatDoor.jc ⟨jg, jn, jk, ju, jf, jt, jc, jz⟩) 33 (wB.alloc (.cells #[.int .i64 jg, .int .i64 jn, .int .i64 jk, .string ju, .string jf, .string jt, .string jc, .int .i64 jz] 33))) := Rg.Bk.new rfl
        go_upto_region 20 with fail
        have kOC := Rg.hid (kOB.out.below bJ kOB.out.lt)
        generalize World.alloc _ _ = wC at *
        obtain ⟨J, hJ⟩ : ∃ J, J = wB.heap.size := ⟨_, rfl⟩
        have hJB : Hid (wB.heap.size ≤ J) := Nat.le_of_eq hJ.symm
        have nQJ : Q ≠ J := by rw [hJ]; exact Nat.ne_of_lt kOB.out.lt
        rw [← hJ] at kJ0 ⊢
        clear hJ o1 o2 o3 o4 o5 o6 o7 o8 o9 o10 kOB
        have o10 : wC.cell? ⟨Q, 10, none⟩ = some (.string cx) := kOC.out.cell 10
        have j7 : wC.cell? ⟨J, 7, none⟩ = some (.int .i64 jz) := kJ0.out.cell 7
        have jfz := kJ0.out.thaw
        have jl := kJ0.out.lt
        go_upto_region 21 with fail
        have kJ1 : Hid (Rg.Bk J (Go.Proofs.YtmilfamjkiemaaaGreatDoor.jc ⟨jg, jn, jk, ju, jf, jt, jc, (cx.size : Int)⟩) 33 (wC.setCell ⟨J, 7, none⟩ (.int .i64 (cx.size : Int)))) := kJ0.out.set 7 _
        have oJ1 : Rg.Only J wC (wC.setCell ⟨J, 7, none⟩ (.int .i64 (cx.size : Int))) := Rg.Only.setCell wC J 7 _
        generalize World.setCell _ _ _ = wD at *
        obtain ⟨zq, hzq⟩ : ∃ zq : Int, zq = (cx.size : Int) := ⟨_, rfl⟩
        rw [← hzq] at kJ1 hfin
        clear hzq o10 j7 jfz jl kJ0
        have bBD : Below wB.heap.size wB wD := bJ.trans (oJ1.bel hJB.out)
        have kYD := Rg.hid (kYB.out.below bBD kYB.out.lt)
        have hlI := Rg.hid (idld kYD.out)
        obtain ⟨wE, stE, kE, oE⟩ := jidst kJ1.out gq nq
        go_upto_region 22 with (first | (with_reducible refine Rg.isld (.tmp 13) 31 ?_; refine Rg.lld (.tmp 13) 31 rfl hlI.out ?_) | (with_reducible refine Rg.isst (.tmp 129) (.tmp 128) 31 ?_; refine Rg.lst (.tmp 129) (.tmp 128) 31 rfl rfl stE ?_))
        have bBE := Rg.hid (bBD.trans (oE.bel hJB.out))
        have kJE := Rg.hid kE
        have kXE := Rg.hid (kXB.out.below bBE.out)
        have kWE := Rg.hid (kWB.out.below bBE.out kWB.out.lt)
        have hrowE := Rg.hid (hrowB.out.below bBE.out)
        have hbE := Rg.hid (Rg.chain hbB.out bBE.out)
        have kOE := Rg.hid (kOC.out.same (oJ1.block Q nQJ) |>.same (oE.block Q nQJ))
        clear kXB kYB kWB hrowB hbB bBD bBE kYD hlI stE kE oE kJ1 bJ hJB kOC oJ1 nQJ
        have o1 : wE.cell? ⟨Q, 1, none⟩ = some (.string cs) := kOE.out.cell 1
        have o10 : wE.cell? ⟨Q, 10, none⟩ = some (.string cx) := kOE.out.cell 10
        have hlJ : Hid ((loadVar 33 ⟨J, 0, none⟩).run Tryz.prog wE = .ok (.agg #[.int .i64 gq, .int .i64 nq, .int .i64 jk, .string ju, .string jf, .string jt, .string jc, .int .i64 zq]) wE) := jld (j := ⟨gq, nq, jk, ju, jf, jt, jc, zq⟩) kJE.out
        obtain ⟨wF, stF, kF, oF⟩ := hst kWE.out rfl ⟨cs, ⟨gq, nq, jk, ju, jf, jt, jc, zq⟩, cx⟩
        go_upto_region 23 with (first | (with_reducible refine Rg.isld (.tmp 15) 33 ?_; refine Rg.lld (.tmp 15) 33 rfl hlJ.out ?_) | (with_reducible refine Rg.isst (.tmp 10) (.tmp 135) 42 ?_; refine Rg.lst (.tmp 10) (.tmp 135) 42 rfl rfl stF ?_))
        have kV : Hid (Rg.Bk V [.string cs, .int .i64 gq, .int .i64 nq, .int .i64 jk, .string ju, .string jf, .string jt, .string jc, .int .i64 zq, .string cx] 42 wF) := kF
        have kX : Hid (DB X CSx dd wF) := ⟨kXE.out.bk.same (oF.block X nXW.out), kXE.out.dt.onlyBare kWE.out (by simp [Bare]) hcl.out.ne (fun o ho => (hcl.out.op o ho).1) oF⟩
        have hrow := Rg.hid (held_sameB hrowE.out hAV.out oF)
        have hb := Rg.hid (hbE.out.trans (oF.bel hWw.out))
        have nXV := nXW
        have hVw := hWw
        have hK := hM
        clear kXE kWE hrowE hbE kJE kOE o1 o10 hlJ stF kF oF nXW hWw hM
        go_wp2_with fail
        go_meet
        exact ⟨A, K, cap, mn, CSx, dd, wz, ⟨cs, ⟨gq, nq, jk, ju, jf, jt, jc, zq⟩, cx⟩, rfl, rfl, hmn, hK, kX, kV, hrow, hb, hok, hZ, hfin⟩
      · have e0 : (ck == 0) = false := by rw [beq_eq_false_iff_ne]; exact fun c => hq (.inl c)
        have hM0 : M ≠ 0 := fun c => hq (.inr c)
        have e1 : ((M : Int) == 0) = false := by rw [beq_eq_false_iff_ne]; omega
        clear hq
        have o9 : w7.cell? ⟨Q, 9, none⟩ = some (.int .i64 jz) := kO7.out.cell 9
        go_upto_region 9 with fail
        obtain ⟨k, hkM, ek⟩ := kthC jz (Nat.pos_of_ne_zero hM0) (show M ≤ 60 by omega)
        rw [ek]
        clear ek o9 o0 e0 e1
        have hil : k < ws.length := by rw [← hM.out]; exact hkM
        obtain ⟨rb, ro, rfl, hat⟩ := held_cellC hrow7.out hil
        have hcD := hI.out.crashDone hm6.out hf0 hf1 hil kp
        have hcF := hI.out.crashFail hm6.out hf0 hf1 hil kp
        have hZ := Rg.hid (hI.out.szs k)
        have hsz := Rg.hid (hI.out.sz _ (List.getElem_mem hil))
        have hfa := Rg.hid (hI.out.fit.arm f (by omega))
        clear hI
        generalize ws[k] = h at *
        obtain ⟨ys, ⟨yg, yn, yk, yu, yf, yt, yc, yz⟩, yx⟩ := h
        obtain ⟨c0, c1, c2, c3, c4, c5, c6, c7, c8, c9⟩ := held_at hat
        dsimp only at c0 c1 c2 c3 c4 c5 c6 c7 c8 c9 hcD hcF hsz
        replace hcD := Rg.hid hcD
        replace hcF := Rg.hid hcF
        have kz0 : (0 : Int) ≤ (k : Int) := by omega
        have kz1 : (k : Int) < (M : Int) := by omega
        obtain ⟨w8, st8, k8, o8⟩ := hst kW.out rfl ⟨ys, ⟨yg, yn, yk, yu, yf, yt, yc, yz⟩, yx⟩
        clear hat
        go_upto_region 10 with (with_reducible refine Rg.isst (.tmp 10) (.tmp 58) 42 ?_; refine Rg.lst (.tmp 10) (.tmp 58) 42 rfl rfl st8 ?_)
        have kV8 : Hid (Rg.Bk V [.string ys, .int .i64 yg, .int .i64 yn, .int .i64 yk, .string yu, .string yf, .string yt, .string yc, .int .i64 yz, .string yx] 42 w8) := k8
        have kX8 := Rg.hid (hfr.out w8 (o8.bel (Nat.le_refl _))).1
        have hrow8 := Rg.hid (hfr.out w8 (o8.bel (Nat.le_refl _))).2
        have kO8 := Rg.hid (kO7.out.same (o8.block Q nQW.out))
        have hb8 := Rg.hid (hb7.out.trans (o8.bel hWw.out))
        clear st8 k8 o8 hfr kW kX7 hrow7 kO7 hb7 c0 c1 c2 c3 c4 c5 c6 c7 c8 c9
        obtain ⟨K, hK1⟩ : ∃ K, M = K + 1 := ⟨M - 1, by omega⟩
        have hK : Hid (K = (ws.take k ++ ws.drop (k + 1)).length) := by
          show _ = _
          rw [List.length_append, List.length_take, List.length_drop, ← hM.out]
          omega
        have ht1 : (ws.take k).length = k := by rw [List.length_take]; omega
        have hd1 : (ws.drop (k + 1)).length = M - (k + 1) := by rw [List.length_drop, ← hM.out]
        have kz2 : (k : Int) + 1 ≤ (M : Int) := by omega
        have kzc : (k : Int) ≤ (cap : Int) := by have := hcap.out; omega
        have kzd : (M : Int) ≤ (cap : Int) := by have := hcap.out; omega
        replace ht1 := Rg.hid ht1
        replace hd1 := Rg.hid hd1
        obtain ⟨j, hj⟩ : ∃ j, j = k + 1 := ⟨_, rfl⟩
        have hjk : Hid ((j : Int) = (k : Int) + 1) := by show _ = _; omega
        have hwr : Hid (IntKind.i64.wrap ((k : Int) + 1) = (k : Int) + 1) := by show _ = _; rw [IntKind.wrap_i64]; omega
        have hkc : Hid (k ≤ cap) := by show _ ≤ _; omega
        have hjM : Hid (j ≤ M) := by show _ ≤ _; omega
        have hjn : Hid (j = k + 1) := hj
        obtain ⟨r, hr⟩ : ∃ r, r = M - j := ⟨_, rfl⟩
        obtain ⟨c2, hc2⟩ : ∃ c2, c2 = cap - j := ⟨_, rfl⟩
        obtain ⟨A2, hA2⟩ : ∃ A2 : Option Addr, A2 = if cap = j then some ⟨rb, ro, none⟩ else some ⟨rb, ro + j * 10, none⟩ := ⟨_, rfl⟩
        have hKj : Hid (k + r = K) := by show _ = _; omega
        have hrd : Hid ((ws.drop (k + 1)).length = r) := by show _ = _; rw [hd1.out]; omega
        have hR2 : Hid (∀ W, heldE.Row W (some ⟨rb, ro, none⟩) ws → heldE.Row W A2 (ws.drop (k + 1))) := fun W q => by rw [hA2, ← hj]; exact held_fromRow q j cap (by rw [← hM.out]; exact hjM.out) (by rw [← hM.out]; exact hcap.out)
        have hsl : Hid (∀ W, (Instr.sliceAt 49 (.slice (some ⟨rb, ro, none⟩) M cap) (some (.int .i64 (j : Int))) none none).run Tryz.prog W = .ok (.slice A2 r c2) W) := fun W => by rw [hA2, hr, hc2]; exact held_from rb ro M cap j hjM.out W
        have hrn : Hid (k + r ≤ 1000000) := by show _ ≤ _; omega
        clear hj hr hc2 hA2 hd1 hjn
        replace hK1 := Rg.hid hK1
        try dsimp only [Act.put]
        go_cut [8] from 59 to 68 (fun s8 wx => ∃ g cap', s8 = .slice (some ⟨g, 0, none⟩) K cap' ∧ Hid (heldE.Row wx (some ⟨g, 0, none⟩) (ws.take k ++ ws.drop (k + 1))) ∧ Hid (Below w8.heap.size w8 wx))
        case first =>
          refine Rg.beginL (fun _ => True) [] (by kernel_rfl) trivial (fun hH0 => ?_)
          refine Rg.tlq 1 (some 60) ?_
          refine Rg.tlq 2 (some 61) ?_
          refine Rg.tlq 3 (some 62) (v := .slice (some ⟨rb, ro, none⟩) k cap) (hy := ?hy3) ?_
          case hy3 =>
            intro w hSw
            clear hSw
            refine xsliceT (v := .slice (some ⟨rb, ro, none⟩) M cap) (u := .int .i64 (k : Int)) _ _ _ rfl ?_ ?_ (held_to rb ro M cap k hkc.out w)
            · first | rfl | go_simp
            · first | rfl | go_simp
          refine Rg.tlq 5 (some 64) ?_
          refine Rg.tlq 6 (some 65) ?_
          refine Rg.tlq 7 (some 66) (v := .int .i64 (j : Int)) (hy := ?hy7) ?_
          case hy7 => intro w hSw; clear hSw; go_simp; rw [hjk.out]; exact hwr.out
          refine Rg.tlq 8 (some 67) (v := .slice A2 r c2) (hy := ?hy8) ?_
          case hy8 =>
            intro w hSw
            clear hSw
            refine xslice (v := .slice (some ⟨rb, ro, none⟩) M cap) (u := .int .i64 (j : Int)) _ _ _ rfl ?_ ?_ (hsl.out w)
            · first | rfl | go_simp
            · first | rfl | go_simp
          refine Rg.AnyL.one 0 (o := { dst := some 59, op := _, type := _, pos := _, after := _, guard := _ }) (by decide) (fun K' hK' => ?_)
          go_simp
          have own1 : Hid (heldE.Own w8.heap.size ((w8.alloc (.cells #[] 42)).drew) w8.heap.size 0 [] []) := (own0 heldE w8).drew
          have b1 : Hid (Below w8.heap.size w8 ((w8.alloc (.cells #[] 42)).drew)) := (Rg.al1 w8 (.cells #[] 42)).drew
          refine hK'.out _ _ trivial (fun hH1 => ?_)
          clear hK' K' hH0
          try simp only [Act.put]
          generalize World.drew _ = wy at *
          have hw81 : Hid (w8.heap.size ≤ wy.heap.size) := b1.out.size
          obtain ⟨g2, cap2, rest2, wz2, hap2, own2, b2, keep2⟩ := held_appR own1.out (ws.take k) (some ⟨rb, ro, none⟩) cap ((hrow8.out.below b1.out).take k) hw81.out (by rw [ht1.out, List.length_nil]; omega)
          rw [ht1.out, List.length_nil, Nat.zero_add] at hap2
          rw [List.nil_append] at own2
          replace own2 := Rg.hid own2
          have b12 : Hid (Below w8.heap.size w8 wz2) := b1.out.trans b2
          refine Rg.AnyL.one 4 (o := { dst := some 63, op := _, type := _, pos := _, after := _, guard := _ }) (by decide) (fun K' hK' => ?_)
          refine Rg.step_append_run rfl (.tmp 59) (.tmp 62) 49 rfl _ _ rfl rfl hap2 ?_
          refine hK'.out _ _ trivial (fun hH2 => ?_)
          clear hK' K' hH1 hap2 own1 b1 b2 keep2 hw81
          try simp only [Act.put]
          have hw82 : Hid (w8.heap.size ≤ wz2.heap.size) := b12.out.size
          obtain ⟨g3, cap3, rest3, wz3, hap3, own3, b3, keep3⟩ := held_appR own2.out (ws.drop (k + 1)) A2 c2 (hR2.out _ (hrow8.out.below b12.out)) hw82.out (by rw [ht1.out, hrd.out]; exact hrn.out)
          rw [ht1.out, hrd.out] at hap3
          replace own3 := Rg.hid own3
          have b13 : Hid (Below w8.heap.size w8 wz3) := b12.out.trans b3
          refine Rg.AnyL.one 9 (o := { dst := some 68, op := _, type := _, pos := _, after := _, guard := _ }) (by decide) (fun K' hK' => ?_)
          refine Rg.step_append_run rfl (.tmp 63) (.tmp 67) 49 rfl _ _ rfl rfl hap3 ?_
          refine hK'.out _ _ trivial (fun hH3 => ?_)
          clear hK' K' hH2 hap3 own2 b12 b3 keep3 hw82
          try simp only [Act.put]
          refine Rg.tlq 10 (some 8) ?_
          refine Rg.AnyL.done ?_
          go_wp2_with fail
          go_meet
          exact ⟨g3, cap3, by rw [hKj.out], Rg.hid own3.out.toRow, b13⟩
        case rest =>
          obtain ⟨g3, cap3, rfl, hrow9, b9⟩ := hcut
          generalize wc = w9 at *
          have kX9 := Rg.hid (kX8.out.below b9.out)
          have kV9 := Rg.hid (kV8.out.below b9.out kV8.out.lt)
          have kO9 := Rg.hid (kO8.out.below b9.out kO8.out.lt)
          have hb9 := Rg.hid (Rg.chain hb8.out b9.out)
          generalize ws.take k ++ ws.drop (k + 1) = wz at *
          clear kX8 kV8 kO8 hb8 hrow8 b9 ht1 hjk hjM hKj hcap hrd hR2 hsl hrn hwr hkc
          have nXV := nXW
          have o0 : w9.cell? ⟨Q, 0, none⟩ = some (.int .i64 ck) := kO9.out.cell 0
          have v0 : w9.cell? ⟨V, 0, none⟩ = some (.string ys) := kV9.out.cell 0
          have v1 : w9.cell? ⟨V, 1, none⟩ = some (.int .i64 yg) := kV9.out.cell 1
          have v2 : w9.cell? ⟨V, 2, none⟩ = some (.int .i64 yn) := kV9.out.cell 2
          have hlD := Rg.hid kX9.out.ld
          by_cases hk1 : ck = 1
          · have e0 : (ck == 1) = true := by simpa using hk1
            have HC : Hid (∀ W, Below w.heap.size w W → DAt W (.agg CS1) (Dsk.arm d f) → Calls Tryz.prog 12 #[.agg CS1, .string ys, .agg #[.int .i64 yg, .int .i64 yn]] W fun e w' => V2Post W (Spl.done (Dsk.arm d f) ys yg yn) e w') := fun W hW hv => done_any _ _ ys yg yn W hfa.out hm6.out hsz.out hv (hw.out.below hW)
            unfold V2Post at HC
            obtain ⟨hfin, hok⟩ := hcD.out
            clear hcD hcF hk1
            generalize Spl.done (Dsk.arm d f) ys yg yn = rd at *
            obtain ⟨dd, ed⟩ := rd
            dsimp only at HC hfin hok
            replace hfin := Rg.hid hfin
            replace hok := Rg.hid hok
            go_upto_region 12 with fail
            go_wp2_with (first | (with_reducible refine Rg.isld (.tmp 7) 28 ?_; refine Rg.lld (.tmp 7) 28 rfl hlD.out ?_) | (go_at_call 12; refine (HC.out _ hb9.out kX9.out.dt).mono ?_; rintro e wp ⟨CSx, rfl, ap, bp⟩; obtain ⟨wq, stq, kq, oq⟩ := (kX9.out.below bp.out).st ap.out) | (with_reducible refine Rg.isst (.tmp 7) (.tmp 80) 28 ?_; refine Rg.lst (.tmp 7) (.tmp 80) 28 rfl rfl stq ?_))
            have kX := Rg.hid kq
            have hrow := Rg.hid (held_onlyB (hrow9.out.below bp.out) (kX9.out.below bp.out) oq)
            have kV := Rg.hid ((kV9.out.below bp.out kV9.out.lt).same (oq.block V nXV.out.symm))
            have hb := Rg.hid ((Rg.chain hb9.out bp.out).trans (oq.bel hXw.out))
            go_meet
            exact ⟨some ⟨g3, 0, none⟩, K, cap3, false, CSx, dd, wz, ⟨ys, ⟨yg, yn, yk, yu, yf, yt, yc, yz⟩, yx⟩, rfl, rfl, by have := hK1.out; omega, hK, kX, kV, hrow, hb, hok, hZ, hfin⟩
          · have e0 : (ck == 1) = false := by simpa using hk1
            have HC : Hid (∀ W, Below w.heap.size w W → DAt W (.agg CS1) (Dsk.arm d f) → Calls Tryz.prog 14 #[.agg CS1, .string ys, .agg #[.int .i64 yg, .int .i64 yn]] W fun e w' => V2Post W (Spl.fail (Dsk.arm d f) ys yg yn) e w') := fun W hW hv => fail_any _ _ ys yg yn W hfa.out hm6.out hsz.out hv (hw.out.below hW)
            unfold V2Post at HC
            obtain ⟨hfin, hok⟩ := hcF.out
            clear hcD hcF hk1
            generalize Spl.fail (Dsk.arm d f) ys yg yn = rd at *
            obtain ⟨dd, ed⟩ := rd
            dsimp only at HC hfin hok
            replace hfin := Rg.hid hfin
            replace hok := Rg.hid hok
            go_upto_region 13 with fail
            go_wp2_with (first | (with_reducible refine Rg.isld (.tmp 7) 28 ?_; refine Rg.lld (.tmp 7) 28 rfl hlD.out ?_) | (go_at_call 14; refine (HC.out _ hb9.out kX9.out.dt).mono ?_; rintro e wp ⟨CSx, rfl, ap, bp⟩; obtain ⟨wq, stq, kq, oq⟩ := (kX9.out.below bp.out).st ap.out) | (with_reducible refine Rg.isst (.tmp 7) (.tmp 90) 28 ?_; refine Rg.lst (.tmp 7) (.tmp 90) 28 rfl rfl stq ?_))
            have kX := Rg.hid kq
            have hrow := Rg.hid (held_onlyB (hrow9.out.below bp.out) (kX9.out.below bp.out) oq)
            have kV := Rg.hid ((kV9.out.below bp.out kV9.out.lt).same (oq.block V nXV.out.symm))
            have hb := Rg.hid ((Rg.chain hb9.out bp.out).trans (oq.bel hXw.out))
            go_meet
            exact ⟨some ⟨g3, 0, none⟩, K, cap3, false, CSx, dd, wz, ⟨ys, ⟨yg, yn, yk, yu, yf, yt, yc, yz⟩, yx⟩, rfl, rfl, by have := hK1.out; omega, hK, kX, kV, hrow, hb, hok, hZ, hfin⟩
    case rest =>
      obtain ⟨A, K, cap, mn, CSx, dd, wz, own, rfl, rfl, hKN, hK, kX, kV, hrow, hb, hok, hZ, hfin⟩ := hcut
      obtain ⟨ys, ⟨yg, yn, yk, yu, yf, yt, yc, yz⟩, yx⟩ := own
      replace kV : Hid (Rg.Bk V [.string ys, .int .i64 yg, .int .i64 yn, .int .i64 yk, .string yu, .string yf, .string yt, .string yc, .int .i64 yz, .string yx] 42 wc) := kV
      clear hfr hAV kW kX7 hrow7 kO7 hb7 hI hM hcap
      have nXV := nXW
      have hVw := hWw
      have HC : Hid (∀ W, DAt W (.agg CSx) dd → Calls Tryz.prog 28 #[.agg CSx, .int .i64 kp] W fun e w' => ∃ CS', e = .returned (.agg CS') ∧ Hid (DAt w' (.agg CS') (Dsk.crash dd kp)) ∧ Hid (Below W.heap.size W w')) := fun W hv => (crash_any _ dd kp W hok.out hv).mono fun e w' ⟨v, h1, h2, h3⟩ => by
        obtain ⟨CS', rfl⟩ := h2.agg
        exact ⟨CS', h1, h2, h3⟩
      have HS : Hid (∀ W CS, DAt W (.agg CS) (Dsk.crash dd kp) → Calls Tryz.prog 27 #[.agg CS] W fun e w' => ∃ CS', e = .returned (.agg CS') ∧ Hid (DAt w' (.agg CS') (Dsk.start (Dsk.crash dd kp))) ∧ Hid (Below W.heap.size W w')) := fun W CS hv => (start_any _ _ W hv).mono fun e w' ⟨v, h1, h2, h3⟩ => by
        obtain ⟨CS', rfl⟩ := h2.agg
        exact ⟨CS', h1, h2, h3⟩
      generalize Dsk.start (Dsk.crash dd kp) = ds at *
      generalize Dsk.crash dd kp = dc at *
      have hlD := Rg.hid kX.out.ld
      have hm13 : Hid (N * 6300 + 6300 ≤ 1000000) := by show _ ≤ _; omega
      go_upto_region 25 with (first | (with_reducible refine Rg.isld (.tmp 7) 28 ?_; refine Rg.lld (.tmp 7) 28 rfl hlD.out ?_) | (go_at_call 28; refine (HC.out _ kX.out.dt).mono ?_; rintro e wb ⟨CSa, rfl, aa, ba⟩) | (go_at_call 27; refine (HS.out _ _ aa.out).mono ?_; rintro e wc ⟨CSb, rfl, ab, bb⟩; obtain ⟨wd, std, kd, od⟩ := ((kX.out.below ba.out).below bb.out).st ab.out) | (with_reducible refine Rg.isst (.tmp 7) (.tmp 141) 28 ?_; refine Rg.lst (.tmp 7) (.tmp 141) 28 rfl rfl std ?_))
      have kXd := Rg.hid kd
      have hrowd := Rg.hid (held_onlyB ((hrow.out.below ba.out).below bb.out) ((kX.out.below ba.out).below bb.out) od)
      have kVd := Rg.hid (((kV.out.below ba.out kV.out.lt).below bb.out (Nat.lt_of_lt_of_le kV.out.lt ba.out.size)).same (od.block V nXV.out.symm))
      have hbd := Rg.hid ((Rg.chain (Rg.chain hb.out ba.out) bb.out).trans (od.bel hXw.out))
      clear kd od std aa ba ab bb kX kV hrow hb hlD HC HS hok
      have HJ : Hid (∀ W, Below w.heap.size w W → DAt W (.agg CSb) ds → Calls Tryz.prog 22 #[.agg CSb, .string ⟨#[]⟩] W fun e w' => ∃ a c L, e = .returned (.slice a L.length c) ∧ Hid ((mn = false ∧ L.length = K) ∨ (L.length = K + 1 ∧ ∃ q, q < L.length ∧ ∃ y, L[q]? = some y ∧ Spl.Like y ⟨ys, ⟨yg, yn, yk, yu, yf, yt, yc, yz⟩, yx⟩)) ∧ Hid (heldE.Row w' a L) ∧ Hid (Below W.heap.size W w') ∧ Hid (∀ b o s, a = some ⟨b, o, s⟩ → W.heap.size ≤ b)) := fun W hW hv => (jobs_any _ ds ⟨#[]⟩ W hfin.out.fit.sm.ok (Fit.mild hfin.out.fit hm13.out) hv (hw.out.below hW)).mono fun e w' ⟨a, c, L, h1, h2, h3, h4, h5⟩ => ⟨a, c, L, h1, by have := hfin.out.now h2.out; rw [← hK.out] at this; exact this, h3, h4, h5⟩
      have hlE := Rg.hid kXd.out.ld
      go_upto_region 26 with (first | (with_reducible refine Rg.isld (.tmp 7) 28 ?_; refine Rg.lld (.tmp 7) 28 rfl hlE.out ?_) | (go_at_call 22; refine (HJ.out _ hbd.out kXd.out.dt).mono ?_; rintro e we ⟨ja, jc9, L, rfl, hJ, jr, be, jn9⟩))
      obtain ⟨P, hP⟩ : ∃ P, P = L.length := ⟨_, rfl⟩
      rw [← hP] at hJ ⊢
      replace hP := Rg.hid hP
      have jnV : Hid (∀ b o s, ja = some ⟨b, o, s⟩ → V < b) := fun b o s e => Nat.lt_of_lt_of_le kVd.out.lt (jn9.out b o s e)
      have kXe := Rg.hid (kXd.out.below be.out)
      have kVe := Rg.hid (kVd.out.below be.out kVd.out.lt)
      have hrowe := Rg.hid (hrowd.out.below be.out)
      have hbe := Rg.hid (Rg.chain hbd.out be.out)
      have hPm : Hid (P ≤ 1000000) := by
        show _ ≤ _
        rcases hJ.out with ⟨_, c⟩ | ⟨c, _⟩ <;> omega
      clear kXd kVd hrowd hbd be jn9 hlE HJ
      go_wp2
      go_loopw [146] (fun vi wr => ∃ (i : Nat), i ≤ K ∧ vi = .int .i64 i ∧ Hid (DB X CSb ds wr) ∧ Hid (heldE.Row wr A wz) ∧ Hid (Rg.Bk V [.string ys, .int .i64 yg, .int .i64 yn, .int .i64 yk, .string yu, .string yf, .string yt, .string yc, .int .i64 yz, .string yx] 42 wr) ∧ Hid (heldE.Row wr ja L) ∧ Hid (Below w.heap.size w wr)) (fun vi _ => K - (intOf vi).toNat)
      case atStart => exact ⟨0, Nat.zero_le _, rfl, kXe, hrowe, kVe, jr, hbe⟩
      case round =>
        obtain ⟨i, hin, rfl, kD, hrow, kV, jr, hbw⟩ := hrel
        clear kXe hrowe kVe hbe
        by_cases hlt : i < K
        · have hil : i < wz.length := by rw [← hK.out]; exact hlt
          obtain ⟨rb, ro, rfl, hat⟩ := held_cellC hrow.out hil
          have hld := hfin.out.load (List.getElem_mem hil)
          have hsz := hZ.out _ (List.getElem_mem hil)
          generalize wz[i] = h at *
          obtain ⟨gs, ⟨gg, gn, gk, gu, gf, gt, gc0, gz⟩, gx⟩ := h
          obtain ⟨c0, c1, c2, c3, c4, c5, c6, c7, c8, c9⟩ := held_at hat
          dsimp only at c0 c1 c2 c3 c4 c5 c6 c7 c8 c9 hld hsz
          have iz0 : (0 : Int) ≤ (i : Int) := by omega
          have iz1 : (i : Int) < (K : Int) := by omega
          have bH := Rg.al1 wr (.cells #[.string gs, .int .i64 gg, .int .i64 gn, .int .i64 gk, .string gu, .string gf, .string gt, .string gc0, .int .i64 gz, .string gx] 42)
          have kH : Hid (Rg.Bk wr.heap.size [.string gs, .int .i64 gg, .int .i64 gn, .int .i64 gk, .string gu, .string gf, .string gt, .string gc0, .int .i64 gz, .string gx] 42 (wr.alloc (.cells #[.string gs, .int .i64 gg, .int .i64 gn, .int .i64 gk, .string gu, .string gf, .string gt, .string gc0, .int .i64 gz, .string gx] 42))) := Rg.Bk.new rfl
          have kD1 := Rg.hid (kD.out.below bH)
          have hrow1 := Rg.hid (hrow.out.below bH)
          have kV1 := Rg.hid (kV.out.below bH kV.out.lt)
          have jr1 := Rg.hid (jr.out.below bH)
          have hb1 := Rg.hid (Rg.chain hbw.out bH)
          have HL : Hid (∀ W, Below w.heap.size w W → DAt W (.agg CSb) ds → Calls Tryz.prog 16 #[.agg CSb, .string gs, .agg #[.int .i64 gg, .int .i64 gn]] W fun e w' => e = .returned (.tuple #[.agg #[.string gs, .int .i64 gg, .int .i64 gn, .int .i64 gk, .string gu, .string gf, .string gt, .string gc0, .int .i64 gz, .string gx], .int .i64 0]) ∧ Below W.heap.size W w') := fun W hW hv => by
            have := load_any _ ds gs gg gn W hfin.out.fit.sm.ok (Fit.mild hfin.out.fit hm13.out) hsz hv (hw.out.below hW)
            rw [hld] at this
            exact this
          clear hat hld hsz
          go_upto_region 29 with fail
          generalize World.alloc _ _ = wa at *
          obtain ⟨Q2, hQ⟩ : ∃ Q, Q = wr.heap.size := ⟨_, rfl⟩
          rw [← hQ] at kH ⊢
          clear hQ c0 c1 c2 c3 c4 c5 c6 c7 c8 c9 hbw bH kD hrow kV jr
          have h0 : wa.cell? ⟨Q2, 0, none⟩ = some (.string gs) := kH.out.cell 0
          have h1 : wa.cell? ⟨Q2, 1, none⟩ = some (.int .i64 gg) := kH.out.cell 1
          have h2 : wa.cell? ⟨Q2, 2, none⟩ = some (.int .i64 gn) := kH.out.cell 2
          have hlD := Rg.hid kD1.out.ld
          go_upto_region 30 with (first | (with_reducible refine Rg.isld (.tmp 7) 28 ?_; refine Rg.lld (.tmp 7) 28 rfl hlD.out ?_) | (go_at_call 16; refine (HL.out _ hb1.out kD1.out.dt).mono ?_; rintro e wb ⟨rfl, bb⟩))
          have bG := Rg.al1 wb (.cells #[.string gs, .int .i64 gg, .int .i64 gn, .int .i64 gk, .string gu, .string gf, .string gt, .string gc0, .int .i64 gz, .string gx] 42)
          have kG : Hid (Rg.Bk wb.heap.size [.string gs, .int .i64 gg, .int .i64 gn, .int .i64 gk, .string gu, .string gf, .string gt, .string gc0, .int .i64 gz, .string gx] 42 (wb.alloc (.cells #[.string gs, .int .i64 gg, .int .i64 gn, .int .i64 gk, .string gu, .string gf, .string gt, .string gc0, .int .i64 gz, .string gx] 42))) := Rg.Bk.new rfl
          have kD2 := Rg.hid ((kD1.out.below bb).below bG)
          have hrow2 := Rg.hid ((hrow1.out.below bb).below bG)
          have kV2 := Rg.hid ((kV1.out.below bb kV1.out.lt).below bG (Nat.lt_of_lt_of_le kV1.out.lt bb.size))
          have jr2 := Rg.hid ((jr1.out.below bb).below bG)
          have hb2 := Rg.hid (Rg.chain (Rg.chain hb1.out bb) bG)
          have kH2 := Rg.hid ((kH.out.below bb kH.out.lt).below bG (Nat.lt_of_lt_of_le kH.out.lt bb.size))
          generalize World.alloc _ _ = wc at *
          obtain ⟨G, hG⟩ : ∃ G, G = wb.heap.size := ⟨_, rfl⟩
          rw [← hG] at kG ⊢
          clear hG h0 h1 h2 hlD HL kD1 hrow1 kV1 jr1 hb1 kH bb bG
          have hlG : Hid ((loadVar 42 ⟨G, 0, none⟩).run Tryz.prog wc = .ok (.agg #[.string gs, .int .i64 gg, .int .i64 gn, .int .i64 gk, .string gu, .string gf, .string gt, .string gc0, .int .i64 gz, .string gx]) wc) := hld (h := ⟨gs, ⟨gg, gn, gk, gu, gf, gt, gc0, gz⟩, gx⟩) kG.out
          have hlH : Hid ((loadVar 42 ⟨Q2, 0, none⟩).run Tryz.prog wc = .ok (.agg #[.string gs, .int .i64 gg, .int .i64 gn, .int .i64 gk, .string gu, .string gf, .string gt, .string gc0, .int .i64 gz, .string gx]) wc) := hld (h := ⟨gs, ⟨gg, gn, gk, gu, gf, gt, gc0, gz⟩, gx⟩) kH2.out
          have EQ : ∀ W, (binOp .neq 42 (.agg #[.string gs, .int .i64 gg, .int .i64 gn, .int .i64 gk, .string gu, .string gf, .string gt, .string gc0, .int .i64 gz, .string gx]) (.agg #[.string gs, .int .i64 gg, .int .i64 gn, .int .i64 gk, .string gu, .string gf, .string gt, .string gc0, .int .i64 gz, .string gx])).run Tryz.prog W = .ok (.bool false) W := fun W => neq_held_self gs gu gf gt gc0 gx gg gn gk gz W
          go_upto_region 32 with (first | (with_reducible refine Rg.isld (.tmp 20) 42 ?_; refine Rg.lld (.tmp 20) 42 rfl hlG.out ?_) | (with_reducible refine Rg.isld (.tmp 19) 42 ?_; refine Rg.lld (.tmp 19) 42 rfl hlH.out ?_))
          clear EQ hlG hlH kG kH2
          go_wp2
          go_roundw
          case rel => exact ⟨i + 1, by omega, by go_num, kD2, hrow2, kV2, jr2, hb2⟩
          case measure => simp [intOf]; omega
        · have hiN : i = K := by omega
          subst hiN
          clear hfin hZ hK kD hrow
          rcases hJ.out with ⟨hmi, hPK⟩ | ⟨hPK, q, hq, y, hy, hlk⟩
          · clear hJ jr kV hP jnV
            subst hmi
            have eP : ((P : Int) == (i : Int)) = true := by rw [hPK]; simp
            go_wp2_with (go_at_call 9; refine (HA.out _ hbw.out).mono ?_; rintro e w9 ⟨rfl, b9⟩)
            go_ret
            exact ⟨rfl, b9⟩
          · have eP : ((P : Int) == (i : Int)) = false := by rw [beq_eq_false_iff_ne]; omega
            have eP2 : ((P : Int) != (i : Int) + 1) = false := by rw [hPK]; simp
            replace hlk := Rg.hid hlk
            replace hy := Rg.hid hy
            clear hJ
            go_upto_region 37 with fail
            clear eP eP2
            go_wp2
            go_loopw [186] (fun vi wr => ∃ (p : Nat) (n' : Int), p ≤ q ∧ vi = .int .i64 p ∧ Hid (Rg.Bk V [.string ys, .int .i64 yg, .int .i64 n', .int .i64 yk, .string yu, .string yf, .string yt, .string yc, .int .i64 yz, .string yx] 42 wr) ∧ Hid (heldE.Row wr ja L) ∧ Hid (Below w.heap.size w wr)) (fun vi _ => P - (intOf vi).toNat)
            case atStart => exact ⟨0, yn, Nat.zero_le _, rfl, kV, jr, hbw⟩
            case round =>
              obtain ⟨p, n', hpq, rfl, kV, jr, hbp⟩ := hrel
              clear hbw
              have hpl : p < L.length := by rw [← hP.out]; omega
              obtain ⟨rb, ro, hja, hat⟩ := held_cellC jr.out hpl
              have hVr : V < rb := jnV.out _ _ _ hja
              subst hja
              have hyp : Hid (p = q → Spl.Like L[p] ⟨ys, ⟨yg, yn, yk, yu, yf, yt, yc, yz⟩, yx⟩) := fun c => by
                subst c
                have := hy.out
                rw [List.getElem?_eq_getElem hpl] at this
                injection this with this
                rw [this]
                exact hlk.out
              generalize L[p] = h at *
              obtain ⟨gs, ⟨gg, gn, gk, gu, gf, gt, gc0, gz⟩, gx⟩ := h
              obtain ⟨c0, c1, c2, c3, c4, c5, c6, c7, c8, c9⟩ := held_at hat
              dsimp only at c0 c1 c2 c3 c4 c5 c6 c7 c8 c9
              have iz0 : (0 : Int) ≤ (p : Int) := by omega
              have iz1 : (p : Int) < (P : Int) := by omega
              have bH := Rg.al1 wr (.cells #[.string gs, .int .i64 gg, .int .i64 gn, .int .i64 gk, .string gu, .string gf, .string gt, .string gc0, .int .i64 gz, .string gx] 42)
              have kH : Hid (Rg.Bk wr.heap.size [.string gs, .int .i64 gg, .int .i64 gn, .int .i64 gk, .string gu, .string gf, .string gt, .string gc0, .int .i64 gz, .string gx] 42 (wr.alloc (.cells #[.string gs, .int .i64 gg, .int .i64 gn, .int .i64 gk, .string gu, .string gf, .string gt, .string gc0, .int .i64 gz, .string gx] 42))) := Rg.Bk.new rfl
              have kV1 := Rg.hid (kV.out.below bH kV.out.lt)
              have jr1 := Rg.hid (jr.out.below bH)
              have hb1 := Rg.hid (Rg.chain hbp.out bH)
              have nVQ0 : V ≠ wr.heap.size := Nat.ne_of_lt kV.out.lt
              have hrQ0 : rb < wr.heap.size := jr.out.some.1
              have hQw0 : w.heap.size ≤ wr.heap.size := hbp.out.size
              replace hVr := Rg.hid hVr
              clear hat
              go_upto_region 40 with fail
              generalize World.alloc _ _ = wa at *
              obtain ⟨Q2, hQ⟩ : ∃ Q, Q = wr.heap.size := ⟨_, rfl⟩
              rw [← hQ] at kH nVQ0 hrQ0 hQw0 ⊢
              have nVQ := Rg.hid nVQ0
              have hrQ := Rg.hid hrQ0
              have hQw := Rg.hid hQw0
              clear hQ nVQ0 hrQ0 hQw0 c0 c1 c2 c3 c4 c5 c6 c7 c8 c9 hbp bH kV jr
              have v1 : wa.cell? ⟨V, 1, none⟩ = some (.int .i64 yg) := kV1.out.cell 1
              have h2 : wa.cell? ⟨Q2, 2, none⟩ = some (.int .i64 gn) := kH.out.cell 2
              obtain ⟨wb, stb, kb, ob⟩ := hidst (h := ⟨ys, ⟨yg, n', yk, yu, yf, yt, yc, yz⟩, yx⟩) kV1.out yg gn
              go_upto_region 41 with (with_reducible refine Rg.isst (.tmp 200) (.tmp 198) 31 ?_; refine lsto1 (.tmp 200) (.tmp 198) 31 rfl rfl stb ?_)
              have kV2 := Rg.hid kb
              have kH2 := Rg.hid (kH.out.same (ob.block Q2 nVQ.out.symm))
              have jr2 : Hid (heldE.Row wb (some ⟨rb, ro, none⟩) L) := by
                obtain ⟨q1, q2⟩ := jr1.out.some
                exact .inr ⟨rb, ro, rfl, by rw [ob.size]; exact q1, q2.same (ob.block rb (Nat.ne_of_gt hVr.out))⟩
              have hb2 := Rg.hid (hb1.out.trans (ob.bel hVw.out))
              clear stb kb ob v1 h2 kV1 jr1 hb1 kH
              have v1 : wb.cell? ⟨V, 1, none⟩ = some (.int .i64 yg) := kV2.out.cell 1
              have q1 : wb.cell? ⟨Q2, 1, none⟩ = some (.int .i64 gg) := kH2.out.cell 1
              have qf := kH2.out.thaw
              have ql := kH2.out.lt
              go_upto_region 42 with fail
              have kH3 : Hid (Rg.Bk Q2 [.string gs, .int .i64 yg, .int .i64 gn, .int .i64 gk, .string gu, .string gf, .string gt, .string gc0, .int .i64 gz, .string gx] 42 (wb.setCell ⟨Q2, 1, none⟩ (.int .i64 yg))) := kH2.out.set 1 _
              have oQ : Rg.Only Q2 wb (wb.setCell ⟨Q2, 1, none⟩ (.int .i64 yg)) := Rg.Only.setCell wb Q2 1 _
              generalize World.setCell _ _ _ = wc at *
              have kV3 := Rg.hid (kV2.out.same (oQ.block V nVQ.out))
              have jr3 : Hid (heldE.Row wc (some ⟨rb, ro, none⟩) L) := by
                obtain ⟨q1, q2⟩ := jr2.out.some
                exact .inr ⟨rb, ro, rfl, by rw [oQ.size]; exact q1, q2.same (oQ.block rb (Nat.ne_of_lt hrQ.out))⟩
              have hb3 := Rg.hid (hb2.out.trans (oQ.bel hQw.out))
              clear v1 q1 qf ql oQ kV2 jr2 hb2 kH2
              have hlH : Hid ((loadVar 42 ⟨Q2, 0, none⟩).run Tryz.prog wc = .ok (.agg #[.string gs, .int .i64 yg, .int .i64 gn, .int .i64 gk, .string gu, .string gf, .string gt, .string gc0, .int .i64 gz, .string gx]) wc) := hld (h := ⟨gs, ⟨yg, gn, gk, gu, gf, gt, gc0, gz⟩, gx⟩) kH3.out
              have hlV : Hid ((loadVar 42 ⟨V, 0, none⟩).run Tryz.prog wc = .ok (.agg #[.string ys, .int .i64 yg, .int .i64 gn, .int .i64 yk, .string yu, .string yf, .string yt, .string yc, .int .i64 yz, .string yx]) wc) := hld (h := ⟨ys, ⟨yg, gn, yk, yu, yf, yt, yc, yz⟩, yx⟩) kV3.out
              by_cases hEq : (⟨gs, ⟨yg, gn, gk, gu, gf, gt, gc0, gz⟩, gx⟩ : Spl.Hd) = ⟨ys, ⟨yg, gn, yk, yu, yf, yt, yc, yz⟩, yx⟩
              · have EQ : ∀ W, (binOp .eql 42 (.agg #[.string gs, .int .i64 yg, .int .i64 gn, .int .i64 gk, .string gu, .string gf, .string gt, .string gc0, .int .i64 gz, .string gx]) (.agg #[.string ys, .int .i64 yg, .int .i64 gn, .int .i64 yk, .string yu, .string yf, .string yt, .string yc, .int .i64 yz, .string yx])).run Tryz.prog W = .ok (.bool true) W := fun W => by
                  have := eql_held gs gu gf gt gc0 gx yg gn gk gz ys yu yf yt yc yx yg gn yk yz W
                  rw [decide_eq_true hEq] at this
                  exact this
                clear hEq hyp
                go_wp2_with (first | (with_reducible refine Rg.isld (.tmp 23) 42 ?_; refine Rg.lld (.tmp 23) 42 rfl hlH.out ?_) | (with_reducible refine Rg.isld (.tmp 10) 42 ?_; refine Rg.lld (.tmp 10) 42 rfl hlV.out ?_) | (go_at_call 9; refine (HA.out _ hb3.out).mono ?_; rintro e w9 ⟨rfl, b9⟩))
                go_ret
                exact ⟨rfl, b9⟩
              · have EQ : ∀ W, (binOp .eql 42 (.agg #[.string gs, .int .i64 yg, .int .i64 gn, .int .i64 gk, .string gu, .string gf, .string gt, .string gc0, .int .i64 gz, .string gx]) (.agg #[.string ys, .int .i64 yg, .int .i64 gn, .int .i64 yk, .string yu, .string yf, .string yt, .string yc, .int .i64 yz, .string yx])).run Tryz.prog W = .ok (.bool false) W := fun W => by
                  have := eql_held gs gu gf gt gc0 gx yg gn gk gz ys yu yf yt yc yx yg gn yk yz W
                  rw [decide_eq_false hEq] at this
                  exact this
                have hpq2 : p ≠ q := fun c => hEq (by
                  have := hyp.out c
                  unfold Spl.Like at this
                  dsimp only at this
                  injection this with q1 q2 q3
                  injection q2 with q4 q5 q6 q7 q8 q9 q10 q11
                  rw [q1, q3, q6, q7, q8, q9, q10, q11])
                clear hEq hyp
                go_upto_region 44 with (first | (with_reducible refine Rg.isld (.tmp 23) 42 ?_; refine Rg.lld (.tmp 23) 42 rfl hlH.out ?_) | (with_reducible refine Rg.isld (.tmp 10) 42 ?_; refine Rg.lld (.tmp 10) 42 rfl hlV.out ?_))
                clear EQ hlH hlV kH3
                go_wp2
                go_roundw
                case rel => exact ⟨_, _, .int .i64 ((p + 1 : Nat) : Int), ⟨p + 1, by omega, rfl, gn, kV3⟩, rfl, rfl, by simp⟩
                case measure => simp only [intOf]; omega
end Go.Proofs.YtmilfamjkiemaaaGreatDoor
