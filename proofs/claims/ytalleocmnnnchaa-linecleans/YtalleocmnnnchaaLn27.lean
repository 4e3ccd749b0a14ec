/-
  Layer 7: the document's own Clean.
-/
import Derived.Test.YtalleocmnnnchaaLn19
namespace Go.Proofs.Ytalleocmnnnchaa
open Go.RowKit

set_option maxHeartbeats 1000000 in
set_option maxRecDepth 100000 in
theorem rclean0 (x0 : ByteArray) (p0 : Int) (b0 : Option Addr) (bn0 bc0 : Nat) (g0 : Option Addr) (gn0 gc0 : Nat) (x1 : ByteArray) (p1 : Int) (b1 : Option Addr) (bn1 bc1 : Nat) (g1 : Option Addr) (gn1 gc1 : Nat) (up : Bool) (f t : Int) (bad gap : List Int) (w : World) (hbn : bn0 = bad.length) (hgn : gn0 = gap.length) (hbl : bad.length ≤ 1000000000) (hgl : gap.length ≤ 1000000000) (hrb0 : IRow w b0 bad) (hrg0 : IRow w g0 gap) :
    Calls Try.prog 17 #[.agg #[.string x0, .int .i64 p0, .slice b0 bn0 bc0, .slice g0 gn0 gc0, .string x1, .int .i64 p1, .slice b1 bn1 bc1, .slice g1 gn1 gc1, .bool up], .int .i64 0, .agg #[.int .i64 f, .int .i64 t]] w fun e w' => VPost (.bool (!(bad.any (fun x => decide (f ≤ x ∧ x < t))) && !(gap.any (fun x => decide (f < x ∧ x < t))))) w e w' := by
  replace hbn := Rg.hid hbn
  replace hgn := Rg.hid hgn
  have hbl2 : bn0 ≤ 1000000000 := by rw [hbn.out]; exact hbl
  have hgl2 : gn0 ≤ 1000000000 := by rw [hgn.out]; exact hgl
  clear hbl hgl
  have HW : Hid (∀ W, Calls Try.prog 37 #[.int .i64 0] W fun e w' => e = .returned (.bool true) ∧ W = w') := fun W => (rway_any 0 W).mono fun e w' h => ⟨h.1, h.2.symm⟩
  obtain ⟨R, hR⟩ : ∃ R, R = (!(bad.any (fun x => decide (f ≤ x ∧ x < t))) && !(gap.any (fun x => decide (f < x ∧ x < t)))) := ⟨_, rfl⟩
  rw [← hR]
  replace hR := Rg.hid hR
  have hb1 := Rg.hid (Rg.al2 w (.cells #[.string x0, .int .i64 p0, .slice b0 bn0 bc0, .slice g0 gn0 gc0, .string x1, .int .i64 p1, .slice b1 bn1 bc1, .slice g1 gn1 gc1, .bool up] 30) (.cells #[.int .i64 f, .int .i64 t] 39))
  have hrb := Rg.hid (hrb0.below (Rg.al2 w (.cells #[.string x0, .int .i64 p0, .slice b0 bn0 bc0, .slice g0 gn0 gc0, .string x1, .int .i64 p1, .slice b1 bn1 bc1, .slice g1 gn1 gc1, .bool up] 30) (.cells #[.int .i64 f, .int .i64 t] 39)))
  have hrg := Rg.hid (hrg0.below (Rg.al2 w (.cells #[.string x0, .int .i64 p0, .slice b0 bn0 bc0, .slice g0 gn0 gc0, .string x1, .int .i64 p1, .slice b1 bn1 bc1, .slice g1 gn1 gc1, .bool up] 30) (.cells #[.int .i64 f, .int .i64 t] 39)))
  have kB := Rg.hid (show Rg.Bk w.heap.size [.string x0, .int .i64 p0, .slice b0 bn0 bc0, .slice g0 gn0 gc0, .string x1, .int .i64 p1, .slice b1 bn1 bc1, .slice g1 gn1 gc1, .bool up] 30 ((w.alloc (.cells #[.string x0, .int .i64 p0, .slice b0 bn0 bc0, .slice g0 gn0 gc0, .string x1, .int .i64 p1, .slice b1 bn1 bc1, .slice g1 gn1 gc1, .bool up] 30)).alloc (.cells #[.int .i64 f, .int .i64 t] 39)) from (Rg.Bk.new rfl).old _)
  have kS := Rg.hid (show Rg.Bk (w.heap.size + 1) [.int .i64 f, .int .i64 t] 39 ((w.alloc (.cells #[.string x0, .int .i64 p0, .slice b0 bn0 bc0, .slice g0 gn0 gc0, .string x1, .int .i64 p1, .slice b1 bn1 bc1, .slice g1 gn1 gc1, .bool up] 30)).alloc (.cells #[.int .i64 f, .int .i64 t] 39)) from Rg.Bk.new (by simp))
  clear hrb0 hrg0
  go_enter Try.func17, Try.ntmps17
  go_upto_region 1 with fail
  generalize World.alloc _ _ = w1 at *
  obtain ⟨B, hB⟩ : ∃ B, B = w.heap.size := ⟨_, rfl⟩
  obtain ⟨S, hS⟩ : ∃ S, S = w.heap.size + 1 := ⟨_, rfl⟩
  rw [← hS] at kS ⊢
  rw [← hB] at kB ⊢
  clear hB hS
  have z2 : w1.cell? ⟨B, 2, none⟩ = some (.slice b0 bn0 bc0) := kB.out.cell 2
  go_wp2_with (go_at_call 37; refine (HW.out _).mono ?_; rintro e w9 ⟨rfl, rfl⟩)
  clear z2
  go_loopw [20] (fun vi wr => ∃ (i : Nat), i ≤ bn0 ∧ vi = .int .i64 i ∧ Hid (∀ x ∈ bad.take i, ¬ (f ≤ x ∧ x < t)) ∧ Below w1.heap.size w1 wr) (fun vi _ => bn0 - (intOf vi).toNat)
  case atStart => exact ⟨0, Nat.zero_le _, rfl, (fun x hx => by simp at hx), Below.refl _ _⟩
  case round =>
    obtain ⟨i, hin, rfl, hno, hbw1⟩ := hrel
    have hb2 := Rg.hid (Rg.chain hb1.out hbw1)
    have s0 : wr.cell? ⟨S, 0, none⟩ = some (.int .i64 f) := (kS.out.below hbw1 kS.out.lt).cell 0
    have s1 : wr.cell? ⟨S, 1, none⟩ = some (.int .i64 t) := (kS.out.below hbw1 kS.out.lt).cell 1
    have z3 : wr.cell? ⟨B, 3, none⟩ = some (.slice g0 gn0 gc0) := (kB.out.below hbw1 kB.out.lt).cell 3
    by_cases hlt0 : i < bn0
    · have hlt : i < bad.length := by rw [← hbn.out]; exact hlt0
      obtain ⟨ba, bo, rfl, -, -⟩ : ∃ b o, b0 = some ⟨b, o, none⟩ ∧ b < w1.heap.size ∧ Rg.At w1 b o (intE.flat bad) := by
        rcases hrb.out.1 with ⟨h, h'⟩ | h
        · rw [h'] at hlt; simp at hlt
        · exact h
      have c1 : wr.cell? ⟨ba, bo + i, none⟩ = some (.int .i64 bad[i]) := (hrb.out.below hbw1).cell hlt
      have hmem : bad[i] ∈ bad := List.getElem_mem hlt
      have hstep : Hid (¬ (f ≤ bad[i] ∧ bad[i] < t) → ∀ x ∈ bad.take (i + 1), ¬ (f ≤ x ∧ x < t)) := fun h x hx => by
        rw [List.take_succ_eq_append_getElem hlt] at hx
        rcases List.mem_append.1 hx with h' | h'
        · exact hno.out x h'
        · rw [List.mem_singleton.1 h']; exact h
      have hz0 : (0 : Int) ≤ (i : Int) := by omega
      have hz1 : (i : Int) < (bn0 : Int) := by omega
      have hno2 : Hid ((f ≤ bad[i] ∧ bad[i] < t) → R = false) := fun h => by
        rw [hR.out]
        have : bad.any (fun x => decide (f ≤ x ∧ x < t)) = true := List.any_eq_true.2 ⟨_, hmem, by simpa using h⟩
        rw [this]; simp
      clear hmem hno
      generalize bad[i] = x at *
      clear hlt
      by_cases ha : f ≤ x
      · have d1 : decide (f ≤ x) = true := by simp only [decide_eq_true_eq]; exact ha
        by_cases hb : x < t
        · have d2 : decide (x < t) = true := by simp only [decide_eq_true_eq]; exact hb
          have hRf := hno2.out ⟨ha, hb⟩
          clear ha hb hno2 hstep
          go_wp2
          go_ret
          exact ⟨ret_bool hRf.symm, (by first | exact hb2.out | exact hb2.out.drew)⟩
        · have d2 : decide (x < t) = false := by simp only [decide_eq_false_iff_not]; exact hb
          have hs2 := Rg.hid (hstep.out (fun h => hb h.2))
          clear ha hb hno2 hstep
          go_wp2
          go_roundw
          case rel => exact ⟨i + 1, by omega, by go_num, hs2, (by first | exact hbw1 | exact hbw1.drew)⟩
          case measure => simp [intOf]; omega
      · have d1 : decide (f ≤ x) = false := by simp only [decide_eq_false_iff_not]; exact ha
        have hs2 := Rg.hid (hstep.out (fun h => ha h.1))
        clear ha hno2 hstep
        go_wp2
        go_roundw
        case rel => exact ⟨i + 1, by omega, by go_num, hs2, (by first | exact hbw1 | exact hbw1.drew)⟩
        case measure => simp [intOf]; omega
    · have hall1 : Hid (bad.any (fun x => decide (f ≤ x ∧ x < t)) = false) := by
        have := hno.out
        rw [List.take_of_length_le (by rw [← hbn.out]; omega)] at this
        exact List.any_eq_false.2 fun x hx => by simpa using this x hx
      clear hno
      have hie : i = bn0 := by omega
      subst i
      clear hin hlt0 s0 s1 hb2
      go_wp2
      go_loopw [41] (fun vi wr => ∃ (i : Nat), i ≤ gn0 ∧ vi = .int .i64 i ∧ Hid (∀ x ∈ gap.take i, ¬ (f < x ∧ x < t)) ∧ Below w1.heap.size w1 wr) (fun vi _ => gn0 - (intOf vi).toNat)
      case atStart => exact ⟨0, Nat.zero_le _, rfl, (fun x hx => by simp at hx), hbw1⟩
      case round =>
        obtain ⟨i, hin, rfl, hno, hbw2⟩ := hrel
        have hb2 := Rg.hid (Rg.chain hb1.out hbw2)
        have s0 : wr.cell? ⟨S, 0, none⟩ = some (.int .i64 f) := (kS.out.below hbw2 kS.out.lt).cell 0
        have s1 : wr.cell? ⟨S, 1, none⟩ = some (.int .i64 t) := (kS.out.below hbw2 kS.out.lt).cell 1

        by_cases hlt0 : i < gn0
        · have hlt : i < gap.length := by rw [← hgn.out]; exact hlt0
          obtain ⟨ba, bo, rfl, -, -⟩ : ∃ b o, g0 = some ⟨b, o, none⟩ ∧ b < w1.heap.size ∧ Rg.At w1 b o (intE.flat gap) := by
            rcases hrg.out.1 with ⟨h, h'⟩ | h
            · rw [h'] at hlt; simp at hlt
            · exact h
          have c1 : wr.cell? ⟨ba, bo + i, none⟩ = some (.int .i64 gap[i]) := (hrg.out.below hbw2).cell hlt
          have hmem : gap[i] ∈ gap := List.getElem_mem hlt
          have hstep : Hid (¬ (f < gap[i] ∧ gap[i] < t) → ∀ x ∈ gap.take (i + 1), ¬ (f < x ∧ x < t)) := fun h x hx => by
            rw [List.take_succ_eq_append_getElem hlt] at hx
            rcases List.mem_append.1 hx with h' | h'
            · exact hno.out x h'
            · rw [List.mem_singleton.1 h']; exact h
          have hz0 : (0 : Int) ≤ (i : Int) := by omega
          have hz1 : (i : Int) < (gn0 : Int) := by omega
          have hno2 : Hid ((f < gap[i] ∧ gap[i] < t) → R = false) := fun h => by
            rw [hR.out]
            have : gap.any (fun x => decide (f < x ∧ x < t)) = true := List.any_eq_true.2 ⟨_, hmem, by simpa using h⟩
            rw [this]; simp
          clear hmem hno
          generalize gap[i] = x at *
          clear hlt
          by_cases ha : f < x
          · have d1 : decide (f < x) = true := by simp only [decide_eq_true_eq]; exact ha
            by_cases hb : x < t
            · have d2 : decide (x < t) = true := by simp only [decide_eq_true_eq]; exact hb
              have hRf := hno2.out ⟨ha, hb⟩
              clear ha hb hno2 hstep
              go_wp2
              go_ret
              exact ⟨ret_bool hRf.symm, (by first | exact hb2.out | exact hb2.out.drew)⟩
            · have d2 : decide (x < t) = false := by simp only [decide_eq_false_iff_not]; exact hb
              have hs2 := Rg.hid (hstep.out (fun h => hb h.2))
              clear ha hb hno2 hstep
              go_wp2
              go_roundw
              case rel => exact ⟨i + 1, by omega, by go_num, hs2, (by first | exact hbw2 | exact hbw2.drew)⟩
              case measure => simp [intOf]; omega
          · have d1 : decide (f < x) = false := by simp only [decide_eq_false_iff_not]; exact ha
            have hs2 := Rg.hid (hstep.out (fun h => ha h.1))
            clear ha hno2 hstep
            go_wp2
            go_roundw
            case rel => exact ⟨i + 1, by omega, by go_num, hs2, (by first | exact hbw2 | exact hbw2.drew)⟩
            case measure => simp [intOf]; omega
        · have hall2 : Hid (gap.any (fun x => decide (f < x ∧ x < t)) = false) := by
            have := hno.out
            rw [List.take_of_length_le (by rw [← hgn.out]; omega)] at this
            exact List.any_eq_false.2 fun x hx => by simpa using this x hx
          clear hno
          have hie : i = gn0 := by omega
          subst i
          clear hin hlt0
          go_wp2
          go_ret
          exact ⟨ret_bool (by rw [hR.out, hall1.out, hall2.out]; rfl), hb2.out⟩

set_option maxHeartbeats 1000000 in
set_option maxRecDepth 100000 in
theorem rclean1 (x0 : ByteArray) (p0 : Int) (b0 : Option Addr) (bn0 bc0 : Nat) (g0 : Option Addr) (gn0 gc0 : Nat) (x1 : ByteArray) (p1 : Int) (b1 : Option Addr) (bn1 bc1 : Nat) (g1 : Option Addr) (gn1 gc1 : Nat) (up : Bool) (f t : Int) (bad gap : List Int) (w : World) (hbn : bn1 = bad.length) (hgn : gn1 = gap.length) (hbl : bad.length ≤ 1000000000) (hgl : gap.length ≤ 1000000000) (hrb0 : IRow w b1 bad) (hrg0 : IRow w g1 gap) :
    Calls Try.prog 17 #[.agg #[.string x0, .int .i64 p0, .slice b0 bn0 bc0, .slice g0 gn0 gc0, .string x1, .int .i64 p1, .slice b1 bn1 bc1, .slice g1 gn1 gc1, .bool up], .int .i64 1, .agg #[.int .i64 f, .int .i64 t]] w fun e w' => VPost (.bool (!(bad.any (fun x => decide (f ≤ x ∧ x < t))) && !(gap.any (fun x => decide (f < x ∧ x < t))))) w e w' := by
  replace hbn := Rg.hid hbn
  replace hgn := Rg.hid hgn
  have hbl2 : bn1 ≤ 1000000000 := by rw [hbn.out]; exact hbl
  have hgl2 : gn1 ≤ 1000000000 := by rw [hgn.out]; exact hgl
  clear hbl hgl
  have HW : Hid (∀ W, Calls Try.prog 37 #[.int .i64 1] W fun e w' => e = .returned (.bool true) ∧ W = w') := fun W => (rway_any 1 W).mono fun e w' h => ⟨h.1, h.2.symm⟩
  obtain ⟨R, hR⟩ : ∃ R, R = (!(bad.any (fun x => decide (f ≤ x ∧ x < t))) && !(gap.any (fun x => decide (f < x ∧ x < t)))) := ⟨_, rfl⟩
  rw [← hR]
  replace hR := Rg.hid hR
  have hb1 := Rg.hid (Rg.al2 w (.cells #[.string x0, .int .i64 p0, .slice b0 bn0 bc0, .slice g0 gn0 gc0, .string x1, .int .i64 p1, .slice b1 bn1 bc1, .slice g1 gn1 gc1, .bool up] 30) (.cells #[.int .i64 f, .int .i64 t] 39))
  have hrb := Rg.hid (hrb0.below (Rg.al2 w (.cells #[.string x0, .int .i64 p0, .slice b0 bn0 bc0, .slice g0 gn0 gc0, .string x1, .int .i64 p1, .slice b1 bn1 bc1, .slice g1 gn1 gc1, .bool up] 30) (.cells #[.int .i64 f, .int .i64 t] 39)))
  have hrg := Rg.hid (hrg0.below (Rg.al2 w (.cells #[.string x0, .int .i64 p0, .slice b0 bn0 bc0, .slice g0 gn0 gc0, .string x1, .int .i64 p1, .slice b1 bn1 bc1, .slice g1 gn1 gc1, .bool up] 30) (.cells #[.int .i64 f, .int .i64 t] 39)))
  have kB := Rg.hid (show Rg.Bk w.heap.size [.string x0, .int .i64 p0, .slice b0 bn0 bc0, .slice g0 gn0 gc0, .string x1, .int .i64 p1, .slice b1 bn1 bc1, .slice g1 gn1 gc1, .bool up] 30 ((w.alloc (.cells #[.string x0, .int .i64 p0, .slice b0 bn0 bc0, .slice g0 gn0 gc0, .string x1, .int .i64 p1, .slice b1 bn1 bc1, .slice g1 gn1 gc1, .bool up] 30)).alloc (.cells #[.int .i64 f, .int .i64 t] 39)) from (Rg.Bk.new rfl).old _)
  have kS := Rg.hid (show Rg.Bk (w.heap.size + 1) [.int .i64 f, .int .i64 t] 39 ((w.alloc (.cells #[.string x0, .int .i64 p0, .slice b0 bn0 bc0, .slice g0 gn0 gc0, .string x1, .int .i64 p1, .slice b1 bn1 bc1, .slice g1 gn1 gc1, .bool up] 30)).alloc (.cells #[.int .i64 f, .int .i64 t] 39)) from Rg.Bk.new (by simp))
  clear hrb0 hrg0
  go_enter Try.func17, Try.ntmps17
  go_upto_region 1 with fail
  generalize World.alloc _ _ = w1 at *
  obtain ⟨B, hB⟩ : ∃ B, B = w.heap.size := ⟨_, rfl⟩
  obtain ⟨S, hS⟩ : ∃ S, S = w.heap.size + 1 := ⟨_, rfl⟩
  rw [← hS] at kS ⊢
  rw [← hB] at kB ⊢
  clear hB hS
  have z2 : w1.cell? ⟨B, 6, none⟩ = some (.slice b1 bn1 bc1) := kB.out.cell 6
  go_wp2_with (go_at_call 37; refine (HW.out _).mono ?_; rintro e w9 ⟨rfl, rfl⟩)
  clear z2
  go_loopw [20] (fun vi wr => ∃ (i : Nat), i ≤ bn1 ∧ vi = .int .i64 i ∧ Hid (∀ x ∈ bad.take i, ¬ (f ≤ x ∧ x < t)) ∧ Below w1.heap.size w1 wr) (fun vi _ => bn1 - (intOf vi).toNat)
  case atStart => exact ⟨0, Nat.zero_le _, rfl, (fun x hx => by simp at hx), Below.refl _ _⟩
  case round =>
    obtain ⟨i, hin, rfl, hno, hbw1⟩ := hrel
    have hb2 := Rg.hid (Rg.chain hb1.out hbw1)
    have s0 : wr.cell? ⟨S, 0, none⟩ = some (.int .i64 f) := (kS.out.below hbw1 kS.out.lt).cell 0
    have s1 : wr.cell? ⟨S, 1, none⟩ = some (.int .i64 t) := (kS.out.below hbw1 kS.out.lt).cell 1
    have z3 : wr.cell? ⟨B, 7, none⟩ = some (.slice g1 gn1 gc1) := (kB.out.below hbw1 kB.out.lt).cell 7
    by_cases hlt0 : i < bn1
    · have hlt : i < bad.length := by rw [← hbn.out]; exact hlt0
      obtain ⟨ba, bo, rfl, -, -⟩ : ∃ b o, b1 = some ⟨b, o, none⟩ ∧ b < w1.heap.size ∧ Rg.At w1 b o (intE.flat bad) := by
        rcases hrb.out.1 with ⟨h, h'⟩ | h
        · rw [h'] at hlt; simp at hlt
        · exact h
      have c1 : wr.cell? ⟨ba, bo + i, none⟩ = some (.int .i64 bad[i]) := (hrb.out.below hbw1).cell hlt
      have hmem : bad[i] ∈ bad := List.getElem_mem hlt
      have hstep : Hid (¬ (f ≤ bad[i] ∧ bad[i] < t) → ∀ x ∈ bad.take (i + 1), ¬ (f ≤ x ∧ x < t)) := fun h x hx => by
        rw [List.take_succ_eq_append_getElem hlt] at hx
        rcases List.mem_append.1 hx with h' | h'
        · exact hno.out x h'
        · rw [List.mem_singleton.1 h']; exact h
      have hz0 : (0 : Int) ≤ (i : Int) := by omega
      have hz1 : (i : Int) < (bn1 : Int) := by omega
      have hno2 : Hid ((f ≤ bad[i] ∧ bad[i] < t) → R = false) := fun h => by
        rw [hR.out]
        have : bad.any (fun x => decide (f ≤ x ∧ x < t)) = true := List.any_eq_true.2 ⟨_, hmem, by simpa using h⟩
        rw [this]; simp
      clear hmem hno
      generalize bad[i] = x at *
      clear hlt
      by_cases ha : f ≤ x
      · have d1 : decide (f ≤ x) = true := by simp only [decide_eq_true_eq]; exact ha
        by_cases hb : x < t
        · have d2 : decide (x < t) = true := by simp only [decide_eq_true_eq]; exact hb
          have hRf := hno2.out ⟨ha, hb⟩
          clear ha hb hno2 hstep
          go_wp2
          go_ret
          exact ⟨ret_bool hRf.symm, (by first | exact hb2.out | exact hb2.out.drew)⟩
        · have d2 : decide (x < t) = false := by simp only [decide_eq_false_iff_not]; exact hb
          have hs2 := Rg.hid (hstep.out (fun h => hb h.2))
          clear ha hb hno2 hstep
          go_wp2
          go_roundw
          case rel => exact ⟨i + 1, by omega, by go_num, hs2, (by first | exact hbw1 | exact hbw1.drew)⟩
          case measure => simp [intOf]; omega
      · have d1 : decide (f ≤ x) = false := by simp only [decide_eq_false_iff_not]; exact ha
        have hs2 := Rg.hid (hstep.out (fun h => ha h.1))
        clear ha hno2 hstep
        go_wp2
        go_roundw
        case rel => exact ⟨i + 1, by omega, by go_num, hs2, (by first | exact hbw1 | exact hbw1.drew)⟩
        case measure => simp [intOf]; omega
    · have hall1 : Hid (bad.any (fun x => decide (f ≤ x ∧ x < t)) = false) := by
        have := hno.out
        rw [List.take_of_length_le (by rw [← hbn.out]; omega)] at this
        exact List.any_eq_false.2 fun x hx => by simpa using this x hx
      clear hno
      have hie : i = bn1 := by omega
      subst i
      clear hin hlt0 s0 s1 hb2
      go_wp2
      go_loopw [41] (fun vi wr => ∃ (i : Nat), i ≤ gn1 ∧ vi = .int .i64 i ∧ Hid (∀ x ∈ gap.take i, ¬ (f < x ∧ x < t)) ∧ Below w1.heap.size w1 wr) (fun vi _ => gn1 - (intOf vi).toNat)
      case atStart => exact ⟨0, Nat.zero_le _, rfl, (fun x hx => by simp at hx), hbw1⟩
      case round =>
        obtain ⟨i, hin, rfl, hno, hbw2⟩ := hrel
        have hb2 := Rg.hid (Rg.chain hb1.out hbw2)
        have s0 : wr.cell? ⟨S, 0, none⟩ = some (.int .i64 f) := (kS.out.below hbw2 kS.out.lt).cell 0
        have s1 : wr.cell? ⟨S, 1, none⟩ = some (.int .i64 t) := (kS.out.below hbw2 kS.out.lt).cell 1

        by_cases hlt0 : i < gn1
        · have hlt : i < gap.length := by rw [← hgn.out]; exact hlt0
          obtain ⟨ba, bo, rfl, -, -⟩ : ∃ b o, g1 = some ⟨b, o, none⟩ ∧ b < w1.heap.size ∧ Rg.At w1 b o (intE.flat gap) := by
            rcases hrg.out.1 with ⟨h, h'⟩ | h
            · rw [h'] at hlt; simp at hlt
            · exact h
          have c1 : wr.cell? ⟨ba, bo + i, none⟩ = some (.int .i64 gap[i]) := (hrg.out.below hbw2).cell hlt
          have hmem : gap[i] ∈ gap := List.getElem_mem hlt
          have hstep : Hid (¬ (f < gap[i] ∧ gap[i] < t) → ∀ x ∈ gap.take (i + 1), ¬ (f < x ∧ x < t)) := fun h x hx => by
            rw [List.take_succ_eq_append_getElem hlt] at hx
            rcases List.mem_append.1 hx with h' | h'
            · exact hno.out x h'
            · rw [List.mem_singleton.1 h']; exact h
          have hz0 : (0 : Int) ≤ (i : Int) := by omega
          have hz1 : (i : Int) < (gn1 : Int) := by omega
          have hno2 : Hid ((f < gap[i] ∧ gap[i] < t) → R = false) := fun h => by
            rw [hR.out]
            have : gap.any (fun x => decide (f < x ∧ x < t)) = true := List.any_eq_true.2 ⟨_, hmem, by simpa using h⟩
            rw [this]; simp
          clear hmem hno
          generalize gap[i] = x at *
          clear hlt
          by_cases ha : f < x
          · have d1 : decide (f < x) = true := by simp only [decide_eq_true_eq]; exact ha
            by_cases hb : x < t
            · have d2 : decide (x < t) = true := by simp only [decide_eq_true_eq]; exact hb
              have hRf := hno2.out ⟨ha, hb⟩
              clear ha hb hno2 hstep
              go_wp2
              go_ret
              exact ⟨ret_bool hRf.symm, (by first | exact hb2.out | exact hb2.out.drew)⟩
            · have d2 : decide (x < t) = false := by simp only [decide_eq_false_iff_not]; exact hb
              have hs2 := Rg.hid (hstep.out (fun h => hb h.2))
              clear ha hb hno2 hstep
              go_wp2
              go_roundw
              case rel => exact ⟨i + 1, by omega, by go_num, hs2, (by first | exact hbw2 | exact hbw2.drew)⟩
              case measure => simp [intOf]; omega
          · have d1 : decide (f < x) = false := by simp only [decide_eq_false_iff_not]; exact ha
            have hs2 := Rg.hid (hstep.out (fun h => ha h.1))
            clear ha hno2 hstep
            go_wp2
            go_roundw
            case rel => exact ⟨i + 1, by omega, by go_num, hs2, (by first | exact hbw2 | exact hbw2.drew)⟩
            case measure => simp [intOf]; omega
        · have hall2 : Hid (gap.any (fun x => decide (f < x ∧ x < t)) = false) := by
            have := hno.out
            rw [List.take_of_length_le (by rw [← hgn.out]; omega)] at this
            exact List.any_eq_false.2 fun x hx => by simpa using this x hx
          clear hno
          have hie : i = gn1 := by omega
          subst i
          clear hin hlt0
          go_wp2
          go_ret
          exact ⟨ret_bool (by rw [hR.out, hall1.out, hall2.out]; rfl), hb2.out⟩

set_option maxHeartbeats 1000000 in
set_option maxRecDepth 100000 in
theorem rclean_bad (x0 : ByteArray) (p0 : Int) (b0 : Option Addr) (bn0 bc0 : Nat) (g0 : Option Addr) (gn0 gc0 : Nat) (x1 : ByteArray) (p1 : Int) (b1 : Option Addr) (bn1 bc1 : Nat) (g1 : Option Addr) (gn1 gc1 : Nat) (up : Bool) (n f t : Int) (w : World) (h0 : n ≠ 0) (h1 : n ≠ 1) :
    Calls Try.prog 17 #[.agg #[.string x0, .int .i64 p0, .slice b0 bn0 bc0, .slice g0 gn0 gc0, .string x1, .int .i64 p1, .slice b1 bn1 bc1, .slice g1 gn1 gc1, .bool up], .int .i64 n, .agg #[.int .i64 f, .int .i64 t]] w fun e w' => VPost (.bool false) w e w' := by
  have HW : Hid (∀ W, Calls Try.prog 37 #[.int .i64 n] W fun e w' => e = .returned (.bool false) ∧ w' = W) := fun W => by have := rway_any n W; rw [show decide (n = 0 ∨ n = 1) = false by simp [h0, h1]] at this; exact this
  have hb1 := Rg.hid (Rg.al2 w (.cells #[.string x0, .int .i64 p0, .slice b0 bn0 bc0, .slice g0 gn0 gc0, .string x1, .int .i64 p1, .slice b1 bn1 bc1, .slice g1 gn1 gc1, .bool up] 30) (.cells #[.int .i64 f, .int .i64 t] 39))
  go_enter Try.func17, Try.ntmps17
  go_wp2_with (go_at_call 37; refine (HW.out _).mono ?_; rintro e w' ⟨rfl, rfl⟩)
  go_ret
  exact ⟨rfl, hb1.out⟩
theorem rclean_at (v : Value) (L : Ln.Li) (n f t : Int) (N : Nat) (w : World) (hL : Ln.LOk N L) (hN : N ≤ 1000000) (h : LAt w v L) : Calls Try.prog 17 #[v, .int .i64 n, .agg #[.int .i64 f, .int .i64 t]] w fun e w' => VPost (.bool (Ln.clean L n f t)) w e w' := by
  obtain ⟨b0, c0, g0, d0, b1, c1, g1, d1, rfl, h1, h2, h3, h4, h5, h6, h7, h8⟩ := h
  have lba := hL.a.lbad
  have lga := hL.a.lgap
  have lbb := hL.b.lbad
  have lgb := hL.b.lgap
  obtain ⟨A, B, up⟩ := L
  dsimp only at *
  unfold Ln.clean
  by_cases n0 : n = 0
  · subst n0
    exact rclean0 ⟨A.x.toArray⟩ (A.p : Int) b0 A.bad.length c0 g0 A.gap.length d0 ⟨B.x.toArray⟩ (B.p : Int) b1 B.bad.length c1 g1 B.gap.length d1 up f t A.bad A.gap w rfl rfl (by omega) (by omega) h1 h3
  · by_cases n1 : n = 1
    · subst n1
      exact rclean1 ⟨A.x.toArray⟩ (A.p : Int) b0 A.bad.length c0 g0 A.gap.length d0 ⟨B.x.toArray⟩ (B.p : Int) b1 B.bad.length c1 g1 B.gap.length d1 up f t B.bad B.gap w rfl rfl (by omega) (by omega) h5 h7
    · rw [show Ln.nway n = false by simp [Ln.nway, n0, n1], Bool.false_and]
      exact rclean_bad ⟨A.x.toArray⟩ (A.p : Int) b0 A.bad.length c0 g0 A.gap.length d0 ⟨B.x.toArray⟩ (B.p : Int) b1 B.bad.length c1 g1 B.gap.length d1 up n f t w n0 n1
end Go.Proofs.Ytalleocmnnnchaa
