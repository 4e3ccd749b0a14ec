/-
  Walks of layer 11: Code, the parts and the control byte. Walks of layer 11: the control byte, a head's text. Walks of layer 11: a short packet's field.
-/
import Derived.Test.YtfiffbohhhehkaaGreatBuMath
import Derived.Test.YtfiffbohhhehkaaGreatBuBase
import Derived.Laws.BytesArg
import Derived.Laws.IdiomStrings
import Derived.Lib.Builder
import Derived.Deep.RegionHeld3
import Derived.Deep.DeepCutAuto
import Derived.Deep.RegionWith
import Derived.Deep.RegionLaw
import Derived.Test.YtfiffbohhhehkaaGreatShelf
namespace Go.Proofs.YtfiffbohhhehkaaGreat
open Go.RowKit

namespace Gf
theorem code_none {z : Int} (h : ∀ j < 8, z ≠ ((32 * 2 ^ j : Nat) : Int)) : code z = 0 := by
  have h0 := h 0 (by decide); have h1 := h 1 (by decide); have h2 := h 2 (by decide); have h3 := h 3 (by decide)
  have h4 := h 4 (by decide); have h5 := h 5 (by decide); have h6 := h 6 (by decide); have h7 := h 7 (by decide)
  unfold code
  simp_all
theorem code_hit {k : Nat} (h : k < 8) : code ((32 * 2 ^ k : Nat) : Int) = k + 1 := by
  have : k = 0 ∨ k = 1 ∨ k = 2 ∨ k = 3 ∨ k = 4 ∨ k = 5 ∨ k = 6 ∨ k = 7 := by omega
  rcases this with h | h | h | h | h | h | h | h <;> subst h <;> decide
theorem shl32 {k : Nat} (h : k < 8) : wrap64 ((32 : Int) * 2 ^ k) = ((32 * 2 ^ k : Nat) : Int) := by
  have : k = 0 ∨ k = 1 ∨ k = 2 ∨ k = 3 ∨ k = 4 ∨ k = 5 ∨ k = 6 ∨ k = 7 := by omega
  rcases this with h | h | h | h | h | h | h | h <;> subst h <;> decide +kernel
theorem u64_small {k : Nat} (h : k < 8) : IntKind.u64.wrap (k : Int) = (k : Int) := by rw [IntKind.wrap_u64]; omega
end Gf
set_option maxHeartbeats 1000000 in
theorem gcode_any (z : Int) (w : World) :
    Calls Tryz.prog 53 #[.int .i64 z] w fun e w' => e = .returned (.int .i64 (Gf.code z)) ∧ w' = w := by
  go_enter Tryz.func53, Tryz.ntmps53
  go_wp2
  go_loopw [4] (fun i wr => ∃ k : Nat, k ≤ 8 ∧ i = .int .i64 k ∧ Hid (∀ j < k, z ≠ ((32 * 2 ^ j : Nat) : Int)) ∧ wr = w) (fun i _ => 8 - (intOf i).toNat)
  case atStart => exact ⟨0, Nat.zero_le _, rfl, fun j hj => absurd hj (Nat.not_lt_zero _), rfl⟩
  case round =>
    obtain ⟨k, hk, rfl, hno, rfl⟩ := hrel
    by_cases hlt : k < 8
    · have hw := Gf.shl32 hlt
      have hst : Hid (z ≠ ((32 * 2 ^ k : Nat) : Int) → ∀ j < k + 1, z ≠ ((32 * 2 ^ j : Nat) : Int)) := fun hz j hj => by
        rcases Nat.lt_succ_iff_lt_or_eq.1 hj with h | h
        · exact hno.out j h
        · rw [h]; exact hz
      have hc : Hid (z = ((32 * 2 ^ k : Nat) : Int) → Gf.code z = k + 1) := fun h => by rw [h]; exact Gf.code_hit hlt
      have hu := Gf.u64_small hlt
      clear hno
      generalize 32 * 2 ^ k = Y at *
      by_cases he : z = (Y : Int)
      · have hd : (z == (Y : Int)) = true := beq_iff_eq.2 he
        have hc : Hid (Gf.code z = k + 1) := hc.out he
        clear he hst
        go_wp2
        go_ret
        exact ⟨ret_i (by rw [hc.out]; go_num), rfl⟩
      · have hd : (z == (Y : Int)) = false := beq_eq_false_iff_ne.2 he
        have hst := hst.out he
        have hst : Hid _ := hst
        clear he hc
        go_wp2
        go_roundw
        case rel => exact ⟨k + 1, by omega, by go_num, hst, trivial⟩
        case measure => simp [intOf]; omega
    · obtain rfl : k = 8 := by omega
      have hr : Hid (Gf.code z = 0) := Gf.code_none hno.out
      clear hno
      go_wp2
      go_ret
      exact ⟨ret_i (by rw [hr.out]; rfl), rfl⟩
set_option maxHeartbeats 1000000 in
theorem rgcode_any (z : Int) (w : World) :
    Calls Tryz.prog 28 #[.int .i64 z] w fun e w' => e = .returned (.int .i64 (Gf.code z)) ∧ w' = w := by
  go_enter Tryz.func28, Tryz.ntmps28
  go_wp2
  go_loopw [4] (fun i wr => ∃ k : Nat, k ≤ 8 ∧ i = .int .i64 k ∧ Hid (∀ j < k, z ≠ ((32 * 2 ^ j : Nat) : Int)) ∧ wr = w) (fun i _ => 8 - (intOf i).toNat)
  case atStart => exact ⟨0, Nat.zero_le _, rfl, fun j hj => absurd hj (Nat.not_lt_zero _), rfl⟩
  case round =>
    obtain ⟨k, hk, rfl, hno, rfl⟩ := hrel
    by_cases hlt : k < 8
    · have hw := Gf.shl32 hlt
      have hst : Hid (z ≠ ((32 * 2 ^ k : Nat) : Int) → ∀ j < k + 1, z ≠ ((32 * 2 ^ j : Nat) : Int)) := fun hz j hj => by
        rcases Nat.lt_succ_iff_lt_or_eq.1 hj with h | h
        · exact hno.out j h
        · rw [h]; exact hz
      have hc : Hid (z = ((32 * 2 ^ k : Nat) : Int) → Gf.code z = k + 1) := fun h => by rw [h]; exact Gf.code_hit hlt
      have hu := Gf.u64_small hlt
      clear hno
      generalize 32 * 2 ^ k = Y at *
      by_cases he : z = (Y : Int)
      · have hd : (z == (Y : Int)) = true := beq_iff_eq.2 he
        have hc : Hid (Gf.code z = k + 1) := hc.out he
        clear he hst
        go_wp2
        go_ret
        exact ⟨ret_i (by rw [hc.out]; go_num), rfl⟩
      · have hd : (z == (Y : Int)) = false := beq_eq_false_iff_ne.2 he
        have hst := hst.out he
        have hst : Hid _ := hst
        clear he hc
        go_wp2
        go_roundw
        case rel => exact ⟨k + 1, by omega, by go_num, hst, trivial⟩
        case measure => simp [intOf]; omega
    · obtain rfl : k = 8 := by omega
      have hr : Hid (Gf.code z = 0) := Gf.code_none hno.out
      clear hno
      go_wp2
      go_ret
      exact ⟨ret_i (by rw [hr.out]; rfl), rfl⟩

theorem isPart_any (n : Int) (w : World) :
    Calls Tryz.prog 116 #[.int .i64 n] w fun e w' => e = .returned (.bool (decide (0 ≤ n ∧ n ≤ 7))) ∧ w' = w := by
  by_cases h1 : 0 ≤ n
  · by_cases h2 : n ≤ 7
    · have hr : Hid (decide (0 ≤ n ∧ n ≤ 7) = true) := decide_eq_true ⟨h1, h2⟩
      go_enter Tryz.func116, Tryz.ntmps116
      go_wp2
      go_ret
      exact ⟨ret_b (by first | exact hr.out.symm | rfl | (rw [hr.out]; simp; omega) | (simp; omega)), rfl⟩
    · have hr : Hid (decide (0 ≤ n ∧ n ≤ 7) = false) := decide_eq_false fun h => h2 h.2
      go_enter Tryz.func116, Tryz.ntmps116
      go_wp2
      go_ret
      exact ⟨ret_b (by first | exact hr.out.symm | rfl | (rw [hr.out]; simp; omega) | (simp; omega)), rfl⟩
  · have hr : Hid (decide (0 ≤ n ∧ n ≤ 7) = false) := decide_eq_false fun h => h1 h.1
    go_enter Tryz.func116, Tryz.ntmps116
    go_wp2
    go_ret
    exact ⟨ret_b (by first | exact hr.out.symm | rfl | (rw [hr.out]; simp; omega) | (simp; omega)), rfl⟩

theorem sizeOf_any (k : Nat) (h1 : 1 ≤ k) (h2 : k ≤ 8) (w : World) :
    Calls Tryz.prog 101 #[.int .i64 k] w fun e w' => e = .returned (.int .i64 (Gf.size k : Nat)) ∧ w' = w := by
  have hh : k = 1 ∨ k = 2 ∨ k = 3 ∨ k = 4 ∨ k = 5 ∨ k = 6 ∨ k = 7 ∨ k = 8 := by omega
  clear h1 h2
  rcases hh with h | h | h | h | h | h | h | h <;> subst h
  all_goals (
    go_enter Tryz.func101, Tryz.ntmps101
    go_wp2
    go_ret
    exact ⟨ret_i (by first | rfl | decide), rfl⟩)

theorem isCodeOf_any (t k : Nat) (w : World) :
    Calls Tryz.prog 99 #[.int .i64 t, .int .i64 k] w fun e w' => e = .returned (.bool (Gf.okCode t k)) ∧ w' = w := by
  by_cases t0 : t = 0
  · subst t0
    have hr : Hid (Gf.okCode 0 k = ((k : Int) == 9)) := by
      show _ = _
      unfold Gf.okCode
      rw [if_pos rfl]
      by_cases hk : k = 9
      · subst hk; rfl
      · rw [beq_eq_false_iff_ne.2 hk, beq_eq_false_iff_ne.2 (by omega)]
    go_enter Tryz.func99, Tryz.ntmps99
    go_wp2
    go_ret
    exact ⟨ret_b (by first | exact hr.out.symm | rfl | (rw [hr.out]; simp; omega) | (simp; omega)), rfl⟩
  have e0 : ((t : Int) == 0) = false := beq_eq_false_iff_ne.2 (by omega)
  by_cases t2 : t = 2 ∨ t = 3
  · have hr : Gf.okCode t k = decide (1 ≤ k ∧ k ≤ 8) := by unfold Gf.okCode; rw [if_neg t0, if_pos t2]
    clear t0 e0
    by_cases h1 : 1 ≤ k
    · by_cases h2 : k ≤ 8
      · have hr : Hid (Gf.okCode t k = true) := hr.trans (decide_eq_true ⟨h1, h2⟩)
        rcases t2 with rfl | rfl
        all_goals (
          go_enter Tryz.func99, Tryz.ntmps99
          go_wp2
          go_ret
          exact ⟨ret_b (by first | exact hr.out.symm | rfl | (rw [hr.out]; simp; omega) | (simp; omega)), rfl⟩)
      · have hr : Hid (Gf.okCode t k = false) := hr.trans (decide_eq_false fun h => h2 h.2)
        rcases t2 with rfl | rfl
        all_goals (
          go_enter Tryz.func99, Tryz.ntmps99
          go_wp2
          go_ret
          exact ⟨ret_b (by first | exact hr.out.symm | rfl | (rw [hr.out]; simp; omega) | (simp; omega)), rfl⟩)
    · have hr : Hid (Gf.okCode t k = false) := hr.trans (decide_eq_false fun h => h1 h.1)
      rcases t2 with rfl | rfl
      all_goals (
        go_enter Tryz.func99, Tryz.ntmps99
        go_wp2
        go_ret
        exact ⟨ret_b (by first | exact hr.out.symm | rfl | (rw [hr.out]; simp; omega) | (simp; omega)), rfl⟩)
  · have hr : Hid (Gf.okCode t k = false) := by show _ = _; unfold Gf.okCode; rw [if_neg t0, if_neg t2]
    have e2 : ((t : Int) == 2) = false := beq_eq_false_iff_ne.2 (by omega)
    have e3 : ((t : Int) == 3) = false := beq_eq_false_iff_ne.2 (by omega)
    clear t0 t2
    go_enter Tryz.func99, Tryz.ntmps99
    go_wp2
    go_ret
    exact ⟨ret_b (by first | exact hr.out.symm | rfl | (rw [hr.out]; simp; omega) | (simp; omega)), rfl⟩
end Go.Proofs.YtfiffbohhhehkaaGreat

namespace Go.Proofs.YtfiffbohhhehkaaGreat
open Go.RowKit
namespace Gf
theorem below1 (w : World) (o : Obj) : Below w.heap.size w (w.alloc o) := (Below.refl _ w).alloc (Nat.le_refl _) _
theorem or_ctl {t h l : Nat} (ht : t < 4) (hh : h < 8) (hl : l < 8) : bits .or .i64 ((t : Int) * 64) ((h : Int) * 8) = ((t * 64 + h * 8 : Nat) : Int) ∧ bits .or .i64 ((t * 64 + h * 8 : Nat) : Int) (l : Int) = ((t * 64 + h * 8 + l : Nat) : Int) := by
  have e1 := Bit.or_i64 (t * 64) (h * 8) (by omega) (by omega)
  have e2 := Bit.or_i64 (t * 64 + h * 8) l (by omega) (by omega)
  have a1 : t * 64 ||| h * 8 = t * 64 + h * 8 := by
    have := Nat.two_pow_add_eq_or_of_lt (i := 6) (b := h * 8) (by omega) t
    rw [Nat.mul_comm t 64]; exact this.symm
  have a2 : t * 64 + h * 8 ||| l = t * 64 + h * 8 + l := by
    have := Nat.two_pow_add_eq_or_of_lt (i := 3) (b := l) (by omega) (t * 8 + h)
    rw [show t * 64 + h * 8 = 2 ^ 3 * (t * 8 + h) by omega]; exact this.symm
  rw [a1] at e1
  rw [a2] at e2
  exact ⟨by rw [← e1]; congr 1, e2⟩
end Gf
set_option maxHeartbeats 1000000 in
theorem gctl_any (t h l : Nat) (ht : t < 4) (hh : h < 8) (hl : l < 8) (z : Int) (d : ByteArray) (w : World) :
    Calls Tryz.prog 117 #[.agg #[.int .i64 t, .int .i64 h, .int .i64 l, .int .i64 z, .string d]] w fun e w' => e = .returned (.int .i64 ((t * 64 + h * 8 + l : Nat) : Int)) ∧ Below w.heap.size w w' := by
  have bw := Gf.below1 w (.cells #[.int .i64 t, .int .i64 h, .int .i64 l, .int .i64 z, .string d] 80)
  obtain ⟨o1, o2⟩ := Gf.or_ctl ht hh hl
  generalize t * 64 + h * 8 + l = c at *
  generalize t * 64 + h * 8 = c1 at *
  go_enter Tryz.func117, Tryz.ntmps117
  go_wp2
  go_ret
  exact ⟨rfl, bw⟩
set_option maxHeartbeats 1000000 in
theorem rgctl_any (t h l : Nat) (ht : t < 4) (hh : h < 8) (hl : l < 8) (z : Int) (d : ByteArray) (w : World) :
    Calls Tryz.prog 93 #[.agg #[.int .i64 t, .int .i64 h, .int .i64 l, .int .i64 z, .string d]] w fun e w' => e = .returned (.int .i64 ((t * 64 + h * 8 + l : Nat) : Int)) ∧ Below w.heap.size w w' := by
  have bw := Gf.below1 w (.cells #[.int .i64 t, .int .i64 h, .int .i64 l, .int .i64 z, .string d] 80)
  obtain ⟨o1, o2⟩ := Gf.or_ctl ht hh hl
  generalize t * 64 + h * 8 + l = c at *
  generalize t * 64 + h * 8 = c1 at *
  go_enter Tryz.func93, Tryz.ntmps93
  go_wp2
  go_ret
  exact ⟨rfl, bw⟩
/-- Whatever the type is: some number. -/
def SomeInt (e : Ending) : Prop := ∃ c : Int, e = .returned (.int .i64 c)
set_option maxHeartbeats 1000000 in
theorem rgctl_some (t h l z : Int) (d : ByteArray) (w : World) :
    Calls Tryz.prog 93 #[.agg #[.int .i64 t, .int .i64 h, .int .i64 l, .int .i64 z, .string d]] w fun e w' => SomeInt e ∧ Below w.heap.size w w' := by
  have bw := Gf.below1 w (.cells #[.int .i64 t, .int .i64 h, .int .i64 l, .int .i64 z, .string d] 80)
  go_enter Tryz.func93, Tryz.ntmps93
  go_wp2
  go_ret
  exact ⟨⟨_, rfl⟩, bw⟩

namespace Gf
/-- A row of bytes as cells. -/
def cells (l : List UInt8) : Array Value := (l.map fun b => Value.int .u8 (b.toNat : Int)).toArray
theorem conv_of {W : World} {b : Nat} {l : List UInt8} (hb : W.heap[b]? = some (.cells (cells l) 5)) :
    (convert 62 9 (.slice (some ⟨b, 0, none⟩) l.length l.length)).run Tryz.prog W = .ok (.string ⟨l.toArray⟩) W :=
  run_convert_bytes_back W 62 9 5 ⟨b, 0, none⟩ l.length l Tryz.underlying62 Tryz.underlying5 Tryz.underlying9 (fun j hj => by
    have e : (⟨b, 0, none⟩ : Addr).add j = ⟨b, j, none⟩ := by cases j <;> simp [Addr.add]
    rw [e, Lib.cell_of_heap hb j]
    simp [cells, hj])
/-- Numbers below 256 as cells. -/
def nums (l : List Nat) : Array Value := (l.map fun n : Nat => Value.int .u8 (n : Int)).toArray
theorem conv_nat {W : World} {b : Nat} {l : List Nat} (h : ∀ n ∈ l, n < 256) (hb : W.heap[b]? = some (.cells (nums l) 5)) :
    (convert 62 9 (.slice (some ⟨b, 0, none⟩) l.length l.length)).run Tryz.prog W = .ok (.string ⟨(l.map UInt8.ofNat).toArray⟩) W := by
  have e : nums l = cells (l.map UInt8.ofNat) := by
    unfold nums cells
    rw [List.map_map]
    congr 1
    apply List.map_congr_left
    intro n hn
    show _ = Value.int .u8 ((UInt8.ofNat n).toNat : Int)
    rw [ofNat_toNat (h n hn)]
  rw [e] at hb
  have := conv_of hb
  rw [List.length_map] at this
  exact this
theorem heap_new (W : World) (o : Obj) : (W.alloc o).heap[W.heap.size]? = some o := (MapKept.heap_alloc W o).1
theorem heap_old {W : World} {b : Nat} {o : Obj} (h : W.heap[b]? = some o) (o' : Obj) : (W.alloc o').heap[b]? = some o := by
  have hlt : b < W.heap.size := by
    rcases Nat.lt_or_ge b W.heap.size with h' | h'
    · exact h'
    · rw [Array.getElem?_eq_none h'] at h; cases h
  rw [Lib.alloc_old W o' b hlt]; exact h
theorem bel2 {B : Nat} {w W : World} (h : Below B w W) (a b : Obj) (hB : B ≤ w.heap.size) : Below B w ((W.alloc a).alloc b) := (h.alloc (Nat.le_trans hB h.size) a).alloc (Nat.le_trans hB (h.alloc (Nat.le_trans hB h.size) a).size) b
theorem alloc_size (W : World) (o : Obj) : (W.alloc o).heap.size = W.heap.size + 1 := by simp
theorem ba_app (a b : List UInt8) : (⟨a.toArray⟩ : ByteArray) ++ ⟨b.toArray⟩ = ⟨(a ++ b).toArray⟩ := by
  apply ByteArray.ext; simp
end Gf
set_option maxHeartbeats 1000000 in
theorem gtext_any (k s c : Nat) (hk : k < 256) (hs : s < 65536) (hc : c < 256) (w : World) :
    Calls Tryz.prog 98 #[.agg #[.int .i64 k, .int .i64 s, .int .i64 c]] w fun e w' => e = .returned (.string ⟨(Gf.head k s c).toArray⟩) ∧ Below w.heap.size w w' := by
  have bw := Gf.below1 w (.cells #[.int .i64 k, .int .i64 s, .int .i64 c] 133)
  have f1 : IntKind.u8.wrap (k : Int) = (k : Int) := by rw [IntKind.wrap_u8]; omega
  have f2 : IntKind.u8.wrap (s : Int) = ((s % 256 : Nat) : Int) := by rw [IntKind.wrap_u8]; omega
  have f3 : IntKind.u8.wrap ((s : Int) / 256) = ((s / 256 : Nat) : Int) := by rw [IntKind.wrap_u8]; omega
  have f4 : IntKind.u8.wrap (c : Int) = (c : Int) := by rw [IntKind.wrap_u8]; omega
  have hr : Hid (Gf.head k s c = [16, UInt8.ofNat k, UInt8.ofNat (s % 256), UInt8.ofNat (s / 256), UInt8.ofNat c, UInt8.ofNat (k ^^^ s % 256 ^^^ s / 256 ^^^ c)]) := rfl
  have ha : s % 256 < 256 := Nat.mod_lt _ (by decide)
  have hb : s / 256 < 256 := by omega
  generalize s % 256 = a at *
  generalize s / 256 = b at *
  have hcv : (convert 62 9 (.slice (some ⟨w.heap.size + 1, 0, none⟩) 4 4)).run Tryz.prog ((w.alloc (.cells #[.int .i64 k, .int .i64 s, .int .i64 c] 133)).alloc (.cells #[.int .u8 k, .int .u8 a, .int .u8 b, .int .u8 c] 5)) = .ok (.string ⟨#[UInt8.ofNat k, UInt8.ofNat a, UInt8.ofNat b, UInt8.ofNat c]⟩) _ :=
    Gf.conv_nat (l := [k, a, b, c]) (by simp; omega) (by have h := Gf.heap_new (w.alloc (.cells #[.int .i64 k, .int .i64 s, .int .i64 c] 133)) (.cells #[.int .u8 k, .int .u8 a, .int .u8 b, .int .u8 c] 5); rw [Gf.alloc_size] at h; exact h)
  have b2 : Below w.heap.size w ((w.alloc (.cells #[.int .i64 k, .int .i64 s, .int .i64 c] 133)).alloc (.cells #[.int .u8 k, .int .u8 a, .int .u8 b, .int .u8 c] 5)) := bw.alloc bw.size _
  go_enter Tryz.func98, Tryz.ntmps98
  go_upto_region 2 with fail
  clear hcv
  generalize (w.alloc (.cells #[.int .i64 k, .int .i64 s, .int .i64 c] 133)).alloc (.cells #[.int .u8 k, .int .u8 a, .int .u8 b, .int .u8 c] 5) = W at *
  have hx : Hid (Chk.xor (⟨#[UInt8.ofNat k, UInt8.ofNat a, UInt8.ofNat b, UInt8.ofNat c]⟩ : ByteArray).data.toList = k ^^^ a ^^^ b ^^^ c) := by
    show _ = _
    simp [Chk.xor, Gf.ofNat_toNat hk, Gf.ofNat_toNat ha, Gf.ofNat_toNat hb, Gf.ofNat_toNat hc]
  have hX := Gf.xor_byte k a b c hk ha hb hc
  have HX := fun w => xor_any ⟨#[UInt8.ofNat k, UInt8.ofNat a, UInt8.ofNat b, UInt8.ofNat c]⟩ w (show 4 ≤ maxLen by decide)
  rw [hx.out] at HX
  generalize k ^^^ a ^^^ b ^^^ c = x at *
  have hs4 : (⟨#[UInt8.ofNat k, UInt8.ofNat a, UInt8.ofNat b, UInt8.ofNat c]⟩ : ByteArray).size = 4 := rfl
  have hres : Hid ((⟨#[16]⟩ : ByteArray) ++ ⟨#[UInt8.ofNat k, UInt8.ofNat a, UInt8.ofNat b, UInt8.ofNat c]⟩ ++ ⟨#[UInt8.ofNat x]⟩ = ⟨(Gf.head k s c).toArray⟩) := by
    show _ = _
    rw [hr.out]
    rfl
  clear hx hr
  generalize (⟨#[UInt8.ofNat k, UInt8.ofNat a, UInt8.ofNat b, UInt8.ofNat c]⟩ : ByteArray) = T at *
  have f5 : IntKind.u8.wrap (x : Int) = (x : Int) := by rw [IntKind.wrap_u8]; omega
  clear f1 f2 f3 f4
  have cA1 : (convert 62 9 (.slice (some ⟨W.heap.size, 0, none⟩) 1 1)).run Tryz.prog (W.alloc (.cells #[.int .u8 16] 5)).drew = .ok (.string ⟨#[16]⟩) _ := Gf.conv_nat (l := [16]) (by simp <;> omega) (Gf.heap_new W _)
  have cA2 : (convert 62 9 (.slice (some ⟨W.heap.size, 0, none⟩) 1 1)).run Tryz.prog ((W.alloc (.cells #[.int .u8 16] 5)).alloc (.cells #[.int .u8 x] 5)).drew = .ok (.string ⟨#[16]⟩) _ := Gf.conv_nat (l := [16]) (by simp <;> omega) (Gf.heap_old (Gf.heap_new W _) _)
  have cA3 : (convert 62 9 (.slice (some ⟨W.heap.size + 1, 0, none⟩) 1 1)).run Tryz.prog ((W.alloc (.cells #[.int .u8 16] 5)).alloc (.cells #[.int .u8 x] 5)).drew = .ok (.string ⟨#[UInt8.ofNat x]⟩) _ := Gf.conv_nat (l := [x]) (by simp <;> omega) (by have h := Gf.heap_new (W.alloc (.cells #[.int .u8 16] 5)) (.cells #[.int .u8 x] 5); rw [Gf.alloc_size] at h; exact h)
  have cB1 : (convert 62 9 (.slice (some ⟨W.heap.size, 0, none⟩) 1 1)).run Tryz.prog (W.alloc (.cells #[.int .u8 x] 5)).drew = .ok (.string ⟨#[UInt8.ofNat x]⟩) _ := Gf.conv_nat (l := [x]) (by simp <;> omega) (Gf.heap_new W _)
  have cB2 : (convert 62 9 (.slice (some ⟨W.heap.size, 0, none⟩) 1 1)).run Tryz.prog ((W.alloc (.cells #[.int .u8 x] 5)).alloc (.cells #[.int .u8 16] 5)).drew = .ok (.string ⟨#[UInt8.ofNat x]⟩) _ := Gf.conv_nat (l := [x]) (by simp <;> omega) (Gf.heap_old (Gf.heap_new W _) _)
  have cB3 : (convert 62 9 (.slice (some ⟨W.heap.size + 1, 0, none⟩) 1 1)).run Tryz.prog ((W.alloc (.cells #[.int .u8 x] 5)).alloc (.cells #[.int .u8 16] 5)).drew = .ok (.string ⟨#[16]⟩) _ := Gf.conv_nat (l := [16]) (by simp <;> omega) (by have h := Gf.heap_new (W.alloc (.cells #[.int .u8 x] 5)) (.cells #[.int .u8 16] 5); rw [Gf.alloc_size] at h; exact h)
  have HXh : Hid (∀ w : World, Calls Tryz.prog 121 #[.string T] w fun e w' => e = .returned (.int .i64 x) ∧ w' = w) := HX
  clear HX
  go_region_with (go_at_call 121; refine (HXh.out _).mono ?_; rintro e w2 ⟨rfl, rfl⟩)
  all_goals
    go_wp2
    go_ret
    exact ⟨ret_s (by first | exact hres.out | rw [hres.out]), by first | exact (Gf.bel2 b2 _ _ (Nat.le_refl _)).drew | exact Gf.bel2 b2 _ _ (Nat.le_refl _)⟩
end Go.Proofs.YtfiffbohhhehkaaGreat

namespace Go.Proofs.YtfiffbohhhehkaaGreat
open Go.RowKit
namespace Gf
theorem repeat0 : ∀ c : Nat, Lib.repeatL [(0 : UInt8)] c = List.replicate c 0
  | 0 => rfl
  | c + 1 => by rw [Lib.repeatL, repeat0 c, List.replicate_succ]; rfl
theorem ba_of (s : ByteArray) : (⟨s.data.toList.toArray⟩ : ByteArray) = s := rfl
theorem len_eq (s : ByteArray) : s.data.toList.length = s.size := by rw [Array.length_toList]; rfl
end Gf
theorem Gf.app_size (a b : ByteArray) : (a ++ b).size = a.size + b.size := by simp
set_option maxHeartbeats 1000000 in
theorem gfield_any (d : ByteArray) (z : Nat) (h : d.size < z) (hz : z ≤ 4096) (w : World) :
    Calls Tryz.prog 119 #[.string d, .int .i64 z] w fun e w' => e = .returned (.string ⟨(Gf.field d.data.toList z).toArray⟩) ∧ Below w.heap.size w w' := by
  obtain ⟨n, hn⟩ : ∃ n, z = d.size + n := ⟨z - d.size, by omega⟩
  have hn0 : 0 < n := by omega
  have hnz : n ≤ 4096 := by omega
  have hds : d.size ≤ 4096 := by omega
  have hsub : (z : Int) - (d.size : Int) = (n : Int) := by omega
  have hfd : Hid (Gf.field d.data.toList z = Gf.cnt n ++ (d.data.toList ++ List.replicate (n - (Gf.cnt n).length) 0)) := by
    show _ = _
    unfold Gf.field
    rw [Gf.len_eq, show z - d.size = n by omega]
  replace hn : Hid (z = d.size + n) := hn
  by_cases h1 : n < 128
  · have hc1 : Gf.cnt n = [UInt8.ofNat n] := by unfold Gf.cnt; rw [if_pos h1]
    have f1 : IntKind.u8.wrap (n : Int) = (n : Int) := by rw [IntKind.wrap_u8]; omega
    have hd1 : decide ((128 : Int) ≤ (n : Int)) = false := by simp; omega
    have hcv : (convert 62 9 (.slice (some ⟨w.heap.size, 0, none⟩) 1 1)).run Tryz.prog (w.alloc (.cells #[.int .u8 n] 5)) = .ok (.string ⟨#[UInt8.ofNat n]⟩) _ := Gf.conv_nat (l := [n]) (by simp <;> omega) (Gf.heap_new w _)
    have bw := Gf.below1 w (.cells #[.int .u8 n] 5)
    obtain ⟨Q, hQ⟩ : ∃ Q, n - 1 = Q := ⟨_, rfl⟩
    replace hQ : Hid (n - 1 = Q) := hQ
    have hres : Hid ((⟨#[UInt8.ofNat n]⟩ : ByteArray) ++ d ++ ⟨(Lib.repeatL [0] Q).toArray⟩ = ⟨(Gf.field d.data.toList z).toArray⟩) := by
      show _ = _
      rw [hfd.out, hc1, Gf.repeat0]
      have e : d = ⟨d.data.toList.toArray⟩ := rfl
      rw [e, show (⟨#[UInt8.ofNat n]⟩ : ByteArray) = ⟨([UInt8.ofNat n] : List UInt8).toArray⟩ from rfl, Gf.ba_app, Gf.ba_app, List.append_assoc]
      rw [show n - ([UInt8.ofNat n] : List UInt8).length = Q from hQ.out]
    have hXs : Hid (((⟨#[UInt8.ofNat n]⟩ : ByteArray) ++ d).size = 1 + d.size) := Gf.app_size _ _
    go_enter Tryz.func119, Tryz.ntmps119
    go_upto_region 6 with fail
    generalize (⟨#[UInt8.ofNat n]⟩ : ByteArray) ++ d = X at *
    generalize w.alloc (.cells #[.int .u8 n] 5) = W at *
    have hsX : (z : Int) - (X.size : Int) = (Q : Int) := by have := hXs.out; have := hQ.out; have := hn.out; omega
    have hXb : X.size ≤ 5000 := by have := hXs.out; omega
    have hQb : Q ≤ 4096 := by have := hQ.out; omega
    have HR : Hid (∀ W, Below w.heap.size w W → Calls Tryz.prog 132 #[.string ⟨#[0]⟩, .int .i64 Q] W fun e w' => e = .returned (.string ⟨(Lib.repeatL [0] Q).toArray⟩) ∧ Below w.heap.size w w') := fun W hW =>
      (Tryz.strings_Repeat ⟨#[0]⟩ Q W (by omega) (by show 1 * Q ≤ _; omega)).mono fun e w' ⟨a, b⟩ => ⟨a, hW.trans (b.mono hW.size)⟩
    have hRs : (⟨(Lib.repeatL [0] Q).toArray⟩ : ByteArray).size ≤ 4096 := by show (Lib.repeatL [0] Q).length ≤ _; rw [Gf.repeat0, List.length_replicate]; exact hQb
    generalize (⟨(Lib.repeatL [0] Q).toArray⟩ : ByteArray) = R at *
    clear hcv
    go_wp2_with (go_at_call 132; refine (HR.out _ bw).mono ?_; rintro e w2 ⟨rfl, b2⟩)
    go_ret
    exact ⟨ret_s hres.out, b2⟩
  · have hc1 : Gf.cnt n = [UInt8.ofNat (n % 128 + 128), UInt8.ofNat (n / 128)] := by unfold Gf.cnt; rw [if_neg h1]
    have f1 : IntKind.u8.wrap (n : Int) = ((n % 256 : Nat) : Int) := by rw [IntKind.wrap_u8]; omega
    have f2 : IntKind.u8.wrap ((n : Int).tmod 128 + 128) = ((n % 128 + 128 : Nat) : Int) := by
      have e : (n : Int).tmod 128 = ((n % 128 : Nat) : Int) := by rw [Int.ofNat_tmod]; rfl
      rw [e, IntKind.wrap_u8]; omega
    have f2' : IntKind.u8.wrap ((n : Int) % 128 + 128) = ((n % 128 + 128 : Nat) : Int) := by rw [IntKind.wrap_u8]; omega
    have f3 : IntKind.u8.wrap ((n : Int).tdiv 128) = ((n / 128 : Nat) : Int) := by
      have e : (n : Int).tdiv 128 = ((n / 128 : Nat) : Int) := by rw [Int.ofNat_tdiv]; rfl
      rw [e, IntKind.wrap_u8]; omega
    have f3' : IntKind.u8.wrap ((n : Int) / 128) = ((n / 128 : Nat) : Int) := by rw [IntKind.wrap_u8]; omega
    have hd1 : decide ((128 : Int) ≤ (n : Int)) = true := by simp; omega
    have ha : n % 128 + 128 < 256 := by omega
    have hb : n / 128 < 256 := by omega
    generalize n % 256 = y at *
    generalize n % 128 + 128 = a at *
    generalize n / 128 = b at *
    have hcv : (convert 62 9 (.slice (some ⟨w.heap.size + 1, 0, none⟩) 2 2)).run Tryz.prog ((w.alloc (.cells #[.int .u8 y] 5)).alloc (.cells #[.int .u8 a, .int .u8 b] 5)) = .ok (.string ⟨#[UInt8.ofNat a, UInt8.ofNat b]⟩) _ := Gf.conv_nat (l := [a, b]) (by simp <;> omega) (by have h := Gf.heap_new (w.alloc (.cells #[.int .u8 y] 5)) (.cells #[.int .u8 a, .int .u8 b] 5); rw [Gf.alloc_size] at h; exact h)
    have bw := (Gf.below1 w (.cells #[.int .u8 y] 5)).alloc (Gf.below1 w (.cells #[.int .u8 y] 5)).size (.cells #[.int .u8 a, .int .u8 b] 5)
    obtain ⟨Q, hQ⟩ : ∃ Q, n - 2 = Q := ⟨_, rfl⟩
    replace hQ : Hid (n - 2 = Q) := hQ
    have hres : Hid ((⟨#[UInt8.ofNat a, UInt8.ofNat b]⟩ : ByteArray) ++ d ++ ⟨(Lib.repeatL [0] Q).toArray⟩ = ⟨(Gf.field d.data.toList z).toArray⟩) := by
      show _ = _
      rw [hfd.out, hc1, Gf.repeat0]
      have e : d = ⟨d.data.toList.toArray⟩ := rfl
      rw [e, show (⟨#[UInt8.ofNat a, UInt8.ofNat b]⟩ : ByteArray) = ⟨([UInt8.ofNat a, UInt8.ofNat b] : List UInt8).toArray⟩ from rfl, Gf.ba_app, Gf.ba_app, List.append_assoc]
      rw [show n - ([UInt8.ofNat a, UInt8.ofNat b] : List UInt8).length = Q from hQ.out]
    have hXs : Hid (((⟨#[UInt8.ofNat a, UInt8.ofNat b]⟩ : ByteArray) ++ d).size = 2 + d.size) := Gf.app_size _ _
    go_enter Tryz.func119, Tryz.ntmps119
    go_upto_region 6 with fail
    generalize (⟨#[UInt8.ofNat a, UInt8.ofNat b]⟩ : ByteArray) ++ d = X at *
    generalize (w.alloc (.cells #[.int .u8 y] 5)).alloc (.cells #[.int .u8 a, .int .u8 b] 5) = W at *
    have hsX : (z : Int) - (X.size : Int) = (Q : Int) := by have := hXs.out; have := hQ.out; have := hn.out; omega
    have hXb : X.size ≤ 5000 := by have := hXs.out; omega
    have hQb : Q ≤ 4096 := by have := hQ.out; omega
    have HR : Hid (∀ W, Below w.heap.size w W → Calls Tryz.prog 132 #[.string ⟨#[0]⟩, .int .i64 Q] W fun e w' => e = .returned (.string ⟨(Lib.repeatL [0] Q).toArray⟩) ∧ Below w.heap.size w w') := fun W hW =>
      (Tryz.strings_Repeat ⟨#[0]⟩ Q W (by omega) (by show 1 * Q ≤ _; omega)).mono fun e w' ⟨a, b⟩ => ⟨a, hW.trans (b.mono hW.size)⟩
    have hRs : (⟨(Lib.repeatL [0] Q).toArray⟩ : ByteArray).size ≤ 4096 := by show (Lib.repeatL [0] Q).length ≤ _; rw [Gf.repeat0, List.length_replicate]; exact hQb
    generalize (⟨(Lib.repeatL [0] Q).toArray⟩ : ByteArray) = R at *
    clear hcv
    go_wp2_with (go_at_call 132; refine (HR.out _ bw).mono ?_; rintro e w2 ⟨rfl, b2⟩)
    go_ret
    exact ⟨ret_s hres.out, b2⟩
end Go.Proofs.YtfiffbohhhehkaaGreat
