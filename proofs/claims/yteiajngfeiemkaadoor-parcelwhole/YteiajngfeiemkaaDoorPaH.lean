/-
  Walks of layer 13's statements: ParcelWhole.
-/
import Derived.Test.YteiajngfeiemkaaDoorPaE
import Derived.Test.YteiajngfeiemkaaDoorPa9
namespace Go.Proofs.YteiajngfeiemkaaDoor
open Go.RowKit
namespace Pa
/-- The size that the statement takes. -/
theorem sized (z : Int) : ∃ U m Z : Nat, IntKind.u64.wrap z = (U : Int) ∧ (U : Int) % 4096 = (m : Int) ∧ (U : Int).tmod 4096 = (m : Int) ∧ IntKind.i64.wrap (m : Int) = (m : Int) ∧ wrap64 (m : Int) = (m : Int) ∧ IntKind.i64.wrap (1 + (m : Int)) = (Z : Int) ∧ wrap64 (1 + (m : Int)) = (Z : Int) ∧ 1 ≤ Z ∧ Z ≤ 4096 := by
  obtain ⟨U, hU⟩ : ∃ U : Nat, IntKind.u64.wrap z = (U : Int) := ⟨(IntKind.u64.wrap z).toNat, by rw [IntKind.wrap_u64]; omega⟩
  refine ⟨U, U % 4096, 1 + U % 4096, hU, by omega, ?_, ?_, ?_, ?_, ?_, by omega, by omega⟩
  · rw [Int.tmod_eq_emod_of_nonneg (by omega)]; omega
  · rw [IntKind.wrap_i64]; omega
  · unfold wrap64; omega
  · rw [IntKind.wrap_i64]; omega
  · unfold wrap64; omega
theorem times (Z : Nat) (h : Z ≤ 4096) : ∃ T : Nat, IntKind.i64.wrap (300 * (Z : Int)) = (T : Int) ∧ wrap64 (300 * (Z : Int)) = (T : Int) := by
  refine ⟨300 * Z, ?_, ?_⟩
  · rw [IntKind.wrap_i64]; omega
  · unfold wrap64; omega
/-- A piece that is not the end is neither long nor empty. -/
theorem piece {z : Nat} (hz : 0 < z) {l : List UInt8} {i : Nat} (hi : i < (file z l).length) (hl : i + 1 < (file z l).length) : (file z l)[i].data.length ≤ z ∧ 0 < (file z l)[i].data.length := by
  have hc : i < ((cut z l).map D).length := by
    have : (file z l).length = ((cut z l).map D).length + 1 := by unfold file; simp
    omega
  have e : (file z l)[i] = ((cut z l).map D)[i] := List.getElem_append_left hc
  rw [e, List.getElem_map]
  have h := cut_mem hz (List.getElem_mem (show i < (cut z l).length by simpa using hc))
  refine ⟨h.1, ?_⟩
  rcases Nat.eq_zero_or_pos ((cut z l)[i]'(by simpa using hc)).length with h0 | h0
  · exact absurd (List.eq_nil_of_length_eq_zero h0) h.2
  · exact h0
theorem file_ok {z : Nat} (hz : 0 < z) (hz2 : z ≤ 4096) {l : List UInt8} : ∀ p ∈ file z l, p.data.length ≤ 9000 := by
  intro p hp
  unfold file at hp
  rw [List.mem_append, List.mem_map, List.mem_singleton] at hp
  rcases hp with ⟨x, hx, rfl⟩ | rfl
  · have := (cut_mem hz hx).1
    show x.length ≤ 9000
    omega
  · have := sum_len l
    show (sum l).length ≤ 9000
    omega
theorem file_few {z : Nat} (hz : 0 < z) {l : List UInt8} (hl : l.length ≤ 6000) : (file z l).length ≤ 10000 := by
  rw [file_len]
  have h3 := (cnt_le (z := z) (n := l.length) hz).2
  rcases Nat.lt_or_ge 6000 (cnt z l.length) with c | c
  · have : 6001 * z ≤ cnt z l.length * z := Nat.mul_le_mul_right _ c
    omega
  · omega
theorem cutR_ok {z : Nat} (hz : 1 ≤ z) (hz2 : z ≤ 4096) {l : List UInt8} (hl : l.length ≤ 6000) : cutR l (z : Int) = (file z l, 0) := by
  unfold cutR; rw [if_neg (by omega), if_neg (by omega), Int.toNat_natCast]
theorem decs {i n1 : Nat} : (i < n1 → decide ((i : Int) < (n1 : Int)) = true ∧ decide (i < n1) = true) ∧ (¬ i < n1 → decide ((i : Int) < (n1 : Int)) = false ∧ decide (i < n1) = false) :=
  ⟨fun h => ⟨by simp; omega, by simp; omega⟩, fun h => ⟨by simp; omega, by simp; omega⟩⟩
theorem not_less {a b c : Nat} (h : c ≤ b) (e : a = c) : decide ((b : Int) < (a : Int)) = false ∧ decide (b < a) = false := ⟨by simp; omega, by simp; omega⟩
end Pa
set_option maxHeartbeats 4000000 in
set_option maxRecDepth 100000 in
theorem pwhole_big (s : ByteArray) (z : Int) (w : World) (q1 : decide ((6000 : Int) < (s.size : Int)) = true)
    (HA : Hid (∀ W, Below w.heap.size w W → Calls Tryd.prog 9 #[] W fun e w' => e = .returned (.bool true) ∧ Below w.heap.size w w')) :
    Calls Tryd.prog 8 #[.string s, .int .i64 z] w fun e w' => e = .returned (.bool true) ∧ Below w.heap.size w w' := by
  go_enter Tryd.func8, Tryd.ntmps8
  go_wp2_with (go_at_call 9; refine (HA.out _ (Below.refl _ _)).mono ?_; rintro e w2 ⟨rfl, b2⟩)
  go_ret
  exact ⟨rfl, b2⟩
set_option linter.unusedVariables false in
set_option maxHeartbeats 4000000 in
set_option maxRecDepth 100000 in
theorem pwhole_few (s : ByteArray) (z : Int) (w : World) (q1 : decide ((6000 : Int) < (s.size : Int)) = false)
    (U m Z T : Nat) (u1 : IntKind.u64.wrap z = (U : Int)) (u2 : (U : Int) % 4096 = (m : Int)) (u3 : (U : Int).tmod 4096 = (m : Int)) (u4 : IntKind.i64.wrap (m : Int) = (m : Int)) (u5 : wrap64 (m : Int) = (m : Int)) (u6 : IntKind.i64.wrap (1 + (m : Int)) = (Z : Int)) (u7 : wrap64 (1 + (m : Int)) = (Z : Int)) (u8 : IntKind.i64.wrap (300 * (Z : Int)) = (T : Int)) (u9 : wrap64 (300 * (Z : Int)) = (T : Int))
    (t1 : decide ((T : Int) < (s.size : Int)) = true) (t2 : decide (T < s.size) = true)
    (HA : Hid (∀ W, Below w.heap.size w W → Calls Tryd.prog 9 #[] W fun e w' => e = .returned (.bool true) ∧ Below w.heap.size w w')) :
    Calls Tryd.prog 8 #[.string s, .int .i64 z] w fun e w' => e = .returned (.bool true) ∧ Below w.heap.size w w' := by
  go_enter Tryd.func8, Tryd.ntmps8
  go_wp2_with (go_at_call 9; refine (HA.out _ (Below.refl _ _)).mono ?_; rintro e w2 ⟨rfl, b2⟩)
  go_ret
  exact ⟨rfl, b2⟩
set_option linter.unusedVariables false in
set_option maxHeartbeats 4000000 in
set_option maxRecDepth 100000 in
theorem pwhole_go (s : ByteArray) (z : Int) (w : World) (q1 : decide ((6000 : Int) < (s.size : Int)) = false)
    (U m Z T : Nat) (u1 : IntKind.u64.wrap z = (U : Int)) (u2 : (U : Int) % 4096 = (m : Int)) (u3 : (U : Int).tmod 4096 = (m : Int)) (u4 : IntKind.i64.wrap (m : Int) = (m : Int)) (u5 : wrap64 (m : Int) = (m : Int)) (u6 : IntKind.i64.wrap (1 + (m : Int)) = (Z : Int)) (u7 : wrap64 (1 + (m : Int)) = (Z : Int)) (u8 : IntKind.i64.wrap (300 * (Z : Int)) = (T : Int)) (u9 : wrap64 (300 * (Z : Int)) = (T : Int))
    (t1 : decide ((T : Int) < (s.size : Int)) = false) (t2 : decide (T < s.size) = false) (r : List Pa.Pc) (n n1 : Nat) (hn : Hid (n = r.length)) (hn1 : Hid (n = n1 + 1)) (v1 : wrap64 ((n : Int) - 1) = (n1 : Int)) (v2 : IntKind.i64.wrap ((n : Int) - 1) = (n1 : Int)) (hn2 : n ≤ 10000)
    (hpc : Hid (∀ i (hi : i < r.length), i < n1 → r[i].data.length ≤ Z ∧ 0 < r[i].data.length))
    (HC : Hid (∀ W, Below w.heap.size w W → Calls Tryd.prog 14 #[.string s, .int .i64 (Z : Int)] W fun e w' => ∃ A cap, e = .returned (.tuple #[.slice A n cap, .int .i64 0]) ∧ Hid (PRow w' A r) ∧ Below W.heap.size W w'))
    (HJ : Hid (∀ W A cap, Below w.heap.size w W → Hid (PRow W A r) → Calls Tryd.prog 18 #[.slice A n cap] W fun e w' => e = .returned (.tuple #[.string s, .int .i64 0]) ∧ Below W.heap.size W w'))
    (HA : Hid (∀ W, Below w.heap.size w W → Calls Tryd.prog 9 #[] W fun e w' => e = .returned (.bool true) ∧ Below w.heap.size w w')) :
    Calls Tryd.prog 8 #[.string s, .int .i64 z] w fun e w' => e = .returned (.bool true) ∧ Below w.heap.size w w' := by
  go_enter Tryd.func8, Tryd.ntmps8
  go_upto_region 7 with (go_at_call 14; refine (HC.out _ (Below.refl _ _)).mono ?_; rintro e w1 ⟨A, cap, rfl, r1, b1⟩)
  go_upto_region 8 with (go_at_call 18; refine (HJ.out _ _ _ b1 r1).mono ?_; rintro e w2 ⟨rfl, b2⟩)
  have r2 := Rg.hid (r1.out.below b2)
  have b2' := Rg.chain b1 b2
  have hsz2 := b2'.size
  clear r1 b1 b2
  go_wp2
  go_loopw [39] (fun vi wr => ∃ i : Nat, i ≤ n ∧ vi = .int .i64 i ∧ Below w2.heap.size w2 wr) (fun vi _ => n - (intOf vi).toNat)
  case atStart => exact ⟨0, Nat.zero_le _, rfl, Below.refl _ _⟩
  case round =>
    obtain ⟨i, hin, rfl, hbw⟩ := hrel
    by_cases hlt : i < n
    · have hil : i < r.length := by rw [← hn.out]; exact hlt
      obtain ⟨x, hx⟩ : ∃ x, r[i] = x := ⟨_, rfl⟩
      obtain ⟨b1, o1, rfl, hb1, ha1⟩ : ∃ b o, A = some ⟨b, o, none⟩ ∧ b < w2.heap.size ∧ Rg.At w2 b o (parE.flat r) := by
        rcases r2.out with h | h
        · rw [h] at hil; simp at hil
        · exact h
      have y1 := par_at ((ha1.elem hil).below hbw hb1)
      rw [hx, show parE.m = 2 from rfl] at y1
      have hpx := hpc.out i hil
      rw [hx] at hpx
      obtain ⟨xt, xd⟩ := x
      obtain ⟨c0, c1⟩ := y1
      dsimp only at c0 c1 hpx
      obtain ⟨D, hD⟩ : ∃ D : ByteArray, D = ⟨xd.toArray⟩ := ⟨_, rfl⟩
      have hDs : D.size = xd.length := by rw [hD]; exact If.size_of xd
      rw [← hD] at c1
      replace hD := Rg.hid hD
      replace hDs := Rg.hid hDs
      replace hpx := Rg.hid hpx
      have iz0 : (0 : Int) ≤ (i : Int) := by omega
      have iz1 : (i : Int) < (n : Int) := by omega
      have bA := If.more hbw (.cells #[.int .i64 xt, .string D] 23)
      clear hx ha1 r2 hil hpc
      by_cases hl : i < n1
      · obtain ⟨p1, p2⟩ := hpx.out hl
        obtain ⟨l1, l2⟩ := Pa.decs.1 hl
        obtain ⟨l3, l4⟩ := Pa.not_less p1 hDs.out
        have l5 := If.ne_nil (s := D) (by rw [hDs.out]; exact p2)
        replace p1 := Rg.hid p1
        replace p2 := Rg.hid p2
        go_wp2
        go_roundw
        case rel => exact ⟨i + 1, by omega, by go_num, bA⟩
        case measure => simp [intOf]; omega
      · obtain ⟨l1, l2⟩ := Pa.decs.2 hl
        go_wp2
        go_roundw
        case rel => exact ⟨i + 1, by omega, by go_num, bA⟩
        case measure => simp [intOf]; omega
    · have bE := Rg.chain b2' hbw
      clear r2 hpc
      go_wp2_with (go_at_call 9; refine (HA.out _ bE).mono ?_; rintro e w6 ⟨rfl, b6⟩)
      go_ret
      exact ⟨rfl, b6⟩
theorem awakeF' (w : World) (htab : Lib.TabIs Tryd.prog w "internal/strconv.uint64pow10" .u64 Lib.pow10Tab) : Hid (∀ W, Below w.heap.size w W → Calls Tryd.prog 9 #[] W fun e w' => e = .returned (.bool true) ∧ Below w.heap.size w w') :=
  fun W hW => (pawake_any W (tab_below htab hW)).mono fun _ _ ⟨a, b⟩ => ⟨a, Rg.chain hW b⟩
theorem pwhole_walk (s : ByteArray) (hs : s.size ≤ maxLen) (z : Int) (_h0 : -9223372036854775808 ≤ z) (_h1 : z ≤ 9223372036854775807) (w : World) (htab : Lib.TabIs Tryd.prog w "internal/strconv.uint64pow10" .u64 Lib.pow10Tab) :
    Calls Tryd.prog 8 #[.string s, .int .i64 z] w fun e w' => e = .returned (.bool true) ∧ Below w.heap.size w w' := by
  have HA := awakeF' w htab
  by_cases q1 : 6000 < s.size
  · exact pwhole_big s z w (by simp; omega) HA
  have q1' : decide ((6000 : Int) < (s.size : Int)) = false := by simp; omega
  obtain ⟨U, m, Z, u1, u2, u3, u4, u5, u6, u7, hZ1, hZ2⟩ := Pa.sized z
  obtain ⟨T, u8, u9⟩ := Pa.times Z hZ2
  by_cases ht : T < s.size
  · obtain ⟨t1, t2⟩ := Pa.decs.1 ht
    exact pwhole_few s z w q1' U m Z T u1 u2 u3 u4 u5 u6 u7 u8 u9 t1 t2 HA
  have hl : s.data.toList.length ≤ 6000 := by rw [If.len_eq]; exact Nat.le_of_not_lt q1
  have hfew := Pa.file_few (z := Z) hZ1 hl
  have hpos : 1 ≤ (Pa.file Z s.data.toList).length := by rw [Pa.file_len]; exact Nat.succ_le_succ (Nat.zero_le _)
  obtain ⟨n1, hn1, v1, v2⟩ := Pa.pred (Pa.file Z s.data.toList).length hpos hfew
  obtain ⟨t1, t2⟩ := Pa.not_less (a := s.size) (b := T) (Nat.le_of_not_lt ht) rfl
  have hpc : Hid (∀ i (hi : i < (Pa.file Z s.data.toList).length), i < n1 → (Pa.file Z s.data.toList)[i].data.length ≤ Z ∧ 0 < (Pa.file Z s.data.toList)[i].data.length) := fun i hi h1 => Pa.piece hZ1 hi (by rw [hn1.out]; exact Nat.succ_lt_succ h1)
  have hcr := Pa.cutR_ok hZ1 hZ2 hl
  have HC : Hid (∀ W, Below w.heap.size w W → Calls Tryd.prog 14 #[.string s, .int .i64 (Z : Int)] W fun e w' => ∃ A cap, e = .returned (.tuple #[.slice A (Pa.file Z s.data.toList).length cap, .int .i64 0]) ∧ Hid (PRow w' A (Pa.file Z s.data.toList)) ∧ Below W.heap.size W w') := fun W hW => by
    have h := pcut_any s hs (Z : Int) W (tab_below htab hW)
    rw [hcr] at h
    exact h.mono fun e w' ⟨A, cap, h1, _, h3, h4⟩ => ⟨A, cap, h1, PRow.of h3.out, h4⟩
  have e : Pa.joinV (.ok s.data.toList) = .tuple #[.string s, .int .i64 0] := rfl
  have hjf := Pa.join_file hZ1 hl
  have hok := Pa.file_ok hZ1 hZ2 (l := s.data.toList)
  have HJ : Hid (∀ W A cap, Below w.heap.size w W → Hid (PRow W A (Pa.file Z s.data.toList)) → Calls Tryd.prog 18 #[.slice A (Pa.file Z s.data.toList).length cap] W fun e w' => e = .returned (.tuple #[.string s, .int .i64 0]) ∧ Below W.heap.size W w') := fun W A cap hW hr => by
    have h := pjoin_any (Pa.file Z s.data.toList) hfew hok A cap W hr (tab_below htab hW)
    rw [hjf, e] at h
    exact h
  generalize Pa.file Z s.data.toList = r at *
  exact pwhole_go s z w q1' U m Z T u1 u2 u3 u4 u5 u6 u7 u8 u9 t1 t2 r r.length n1 rfl hn1 v1 v2 hfew hpc HC HJ HA
end Go.Proofs.YteiajngfeiemkaaDoor
