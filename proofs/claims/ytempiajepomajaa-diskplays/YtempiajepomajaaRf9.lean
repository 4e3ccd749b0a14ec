/-
  Layer 6: the document's disk: Same, of one disk told twice.
-/
import Derived.Test.YtempiajepomajaaRf8
namespace Go.Proofs.Ytempiajepomajaa
open Go.RowKit

set_option maxHeartbeats 2000000 in
set_option maxRecDepth 100000 in
theorem rsame_any (v v2 : Value) (d : Dsk.Dk) (w : World) (hd : Dsk.Ok d) (h : DAt w v d) (h2 : DAt w v2 d) :
    Calls Try.prog 15 #[v, v2] w fun e w' => VPost (.bool true) w e w' := by
  obtain ⟨sa, sc, oa, oc, rfl, hS, hO, hsc, hoc⟩ := h
  obtain ⟨sa2, sc2, oa2, oc2, rfl, hS', hO', hsc2, hoc2⟩ := h2
  obtain ⟨safe, ops, cap, fuse, down⟩ := d
  have hwt := hd.wt
  unfold dval
  dsimp only at *
  have hls := Dsk.len_used safe
  have hlo := Dsk.len_wt ops
  obtain ⟨SN, hSN⟩ : ∃ SN, SN = safe.length := ⟨_, rfl⟩
  obtain ⟨ON, hON⟩ : ∃ ON, ON = ops.length := ⟨_, rfl⟩
  have hSb : SN ≤ 1000000000 := by omega
  have hOb : ON ≤ 1000000000 := by omega
  rw [← hSN, ← hON]
  replace hSN := Rg.hid hSN
  replace hON := Rg.hid hON
  have hb1 := Rg.hid (Rg.al2 w (.cells #[.slice sa SN sc, .slice oa ON oc, .int .i64 cap, .int .i64 fuse, .bool down] 28) (.cells #[.slice sa2 SN sc2, .slice oa2 ON oc2, .int .i64 cap, .int .i64 fuse, .bool down] 28))
  have hkA : Hid (Rg.Bk w.heap.size [.slice sa SN sc, .slice oa ON oc, .int .i64 cap, .int .i64 fuse, .bool down] 28 ((w.alloc (.cells #[.slice sa SN sc, .slice oa ON oc, .int .i64 cap, .int .i64 fuse, .bool down] 28)).alloc (.cells #[.slice sa2 SN sc2, .slice oa2 ON oc2, .int .i64 cap, .int .i64 fuse, .bool down] 28))) := (Rg.Bk.new rfl).old _
  have hkB : Hid (Rg.Bk (w.heap.size + 1) [.slice sa2 SN sc2, .slice oa2 ON oc2, .int .i64 cap, .int .i64 fuse, .bool down] 28 ((w.alloc (.cells #[.slice sa SN sc, .slice oa ON oc, .int .i64 cap, .int .i64 fuse, .bool down] 28)).alloc (.cells #[.slice sa2 SN sc2, .slice oa2 ON oc2, .int .i64 cap, .int .i64 fuse, .bool down] 28))) := Rg.Bk.new (by simp)
  have hS1 := Rg.hid (hS.below hb1.out)
  have hS2 := Rg.hid (hS'.below hb1.out)
  have hO1 := Rg.hid (hO.below hb1.out)
  have hO2 := Rg.hid (hO'.below hb1.out)
  clear hS hS' hO hO' hsc hoc hsc2 hoc2 hd hwt hls hlo
  go_enter Try.func15, Try.ntmps15
  go_wp2
  generalize World.alloc _ _ = W1 at *
  obtain ⟨B1, hB1⟩ : ∃ B1, B1 = w.heap.size := ⟨_, rfl⟩
  obtain ⟨B2, hB2⟩ : ∃ B2, B2 = w.heap.size + 1 := ⟨_, rfl⟩
  rw [← hB2] at hkB ⊢
  rw [← hB1] at hkA ⊢
  clear hB1 hB2
  go_loopw [47] (fun vi wr => ∃ i : Nat, i ≤ SN ∧ vi = .int .i64 i ∧ Below W1.heap.size W1 wr) (fun vi _ => SN - (intOf vi).toNat)
  case atStart => exact ⟨0, Nat.zero_le _, rfl, Below.refl _ _⟩
  case round =>
    obtain ⟨i, hin, rfl, hbw⟩ := hrel
    by_cases hlt : i < SN
    · have hil : i < safe.length := by rw [← hSN.out]; exact hlt
      obtain ⟨p, o, rfl, hp, hpat⟩ : ∃ p o, sa = some ⟨p, o, none⟩ ∧ p < W1.heap.size ∧ Rg.At W1 p o (fileE.flat safe) := by
        rcases hS1.out with ⟨_, h⟩ | h
        · rw [h] at hil; simp at hil
        · exact h
      obtain ⟨q, r, rfl, hq, hqat⟩ : ∃ q r, sa2 = some ⟨q, r, none⟩ ∧ q < W1.heap.size ∧ Rg.At W1 q r (fileE.flat safe) := by
        rcases hS2.out with ⟨_, h⟩ | h
        · rw [h] at hil; simp at hil
        · exact h
      have at1 : Rg.At wr p (o + i * 2) (fileE.enc safe[i]) := (hpat.elem hil).below hbw hp
      have at2 : Rg.At wr q (r + i * 2) (fileE.enc safe[i]) := (hqat.elem hil).below hbw hq
      have kA : wr.cell? ⟨B1, 0, none⟩ = some (.slice (some ⟨p, o, none⟩) SN sc) := (hkA.out.below hbw hkA.out.lt).cell 0
      have kB : wr.cell? ⟨B2, 0, none⟩ = some (.slice (some ⟨q, r, none⟩) SN sc2) := (hkB.out.below hbw hkB.out.lt).cell 0
      generalize safe[i] = xe at *
      obtain ⟨xn, xd⟩ := xe
      have A := file_at at1
      have Bq := file_at at2
      have hz0 : (0 : Int) ≤ (i : Int) := by omega
      have hz1 : (i : Int) < (SN : Int) := by omega
      have EQ : ∀ W, (binOp .neq 53 (.agg #[.string xn, .string xd]) (.agg #[.string xn, .string xd])).run Try.prog W = .ok (.bool false) W := fun W => by rw [neq_file]; simp
      obtain ⟨a0, a1⟩ := A
      obtain ⟨b0, b1⟩ := Bq
      clear at1 at2 hpat hqat hil hp hq
      go_upto_region 6 with fail
      go_cut [60] (fun s wx => s = .bool false ∧ Below W1.heap.size W1 wx)
      case first =>
        go_big_region
        all_goals (go_wp2_with fail; go_meet; exact ⟨rfl, hbw.drew⟩)
      case rest =>
        obtain ⟨rfl, hbx⟩ := hcut
        go_wp2
        go_roundw
        case rel => exact ⟨i + 1, by omega, by go_num, hbx⟩
        case measure => simp [intOf]; omega
    · obtain rfl : i = SN := by omega
      have kA1 : wr.cell? ⟨B1, 1, none⟩ = some (.slice oa ON oc) := (hkA.out.below hbw hkA.out.lt).cell 1
      go_wp2
      go_loopw [65] (fun vi wr => ∃ i : Nat, i ≤ ON ∧ vi = .int .i64 i ∧ Below W1.heap.size W1 wr) (fun vi _ => ON - (intOf vi).toNat)
      case atStart => exact ⟨0, Nat.zero_le _, rfl, hbw⟩
      case round =>
        obtain ⟨i, hin, rfl, hbw⟩ := hrel
        by_cases hlt : i < ON
        · have hil : i < ops.length := by rw [← hON.out]; exact hlt
          obtain ⟨p, o, rfl, hp, hpat⟩ : ∃ p o, oa = some ⟨p, o, none⟩ ∧ p < W1.heap.size ∧ Rg.At W1 p o (opE.flat ops) := by
            rcases hO1.out with ⟨_, h⟩ | h
            · rw [h] at hil; simp at hil
            · exact h
          obtain ⟨q, r, rfl, hq, hqat⟩ : ∃ q r, oa2 = some ⟨q, r, none⟩ ∧ q < W1.heap.size ∧ Rg.At W1 q r (opE.flat ops) := by
            rcases hO2.out with ⟨_, h⟩ | h
            · rw [h] at hil; simp at hil
            · exact h
          have at1 : Rg.At wr p (o + i * 4) (opE.enc ops[i]) := (hpat.elem hil).below hbw hp
          have at2 : Rg.At wr q (r + i * 4) (opE.enc ops[i]) := (hqat.elem hil).below hbw hq
          have kA : wr.cell? ⟨B1, 1, none⟩ = some (.slice (some ⟨p, o, none⟩) ON oc) := (hkA.out.below hbw hkA.out.lt).cell 1
          have kB : wr.cell? ⟨B2, 1, none⟩ = some (.slice (some ⟨q, r, none⟩) ON oc2) := (hkB.out.below hbw hkB.out.lt).cell 1
          generalize ops[i] = xe at *
          obtain ⟨xk, xn, xt, xd⟩ := xe
          have A := op_at at1
          have Bq := op_at at2
          have hz0 : (0 : Int) ≤ (i : Int) := by omega
          have hz1 : (i : Int) < (ON : Int) := by omega
          have EQ : ∀ W, (binOp .neq 56 (.agg #[.int .i64 xk, .string xn, .string xt, .string xd]) (.agg #[.int .i64 xk, .string xn, .string xt, .string xd])).run Try.prog W = .ok (.bool false) W := fun W => by rw [neq_op]; simp
          obtain ⟨a0, a1, a2, a3⟩ := A
          obtain ⟨b0, b1, b2, b3⟩ := Bq
          clear at1 at2 hpat hqat hil hp hq
          go_upto_region 12 with fail
          go_cut [78] (fun s wx => s = .bool false ∧ Below W1.heap.size W1 wx)
          case first =>
            go_big_region
            all_goals (go_wp2_with fail; go_meet; exact ⟨rfl, hbw.drew⟩)
          case rest =>
            obtain ⟨rfl, hbx⟩ := hcut
            go_wp2
            go_roundw
            case rel => exact ⟨i + 1, by omega, by go_num, hbx⟩
            case measure => simp [intOf]; omega
        · obtain rfl : i = ON := by omega
          go_wp2
          go_ret
          exact ⟨rfl, Rg.chain hb1.out hbw⟩
end Go.Proofs.Ytempiajepomajaa
