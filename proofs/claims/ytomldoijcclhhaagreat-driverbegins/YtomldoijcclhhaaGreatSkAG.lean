/-
  Walks of layer 11: Code, the parts and the control byte. Walks of layer 11: the control byte, a head's text. Walks of layer 11: a short packet's field. Walks of layer 11: Write.
-/
import Derived.Test.YtomldoijcclhhaaGreatSkAA
import Derived.Test.YtomldoijcclhhaaGreatSkAF
import Derived.Test.YtomldoijcclhhaaGreatSkAB
import Derived.Laws.BytesArg
import Derived.Laws.IdiomStrings
import Derived.Lib.Builder
import Derived.Deep.RegionHeld3
import Derived.Deep.DeepCutAuto
import Derived.Deep.RegionWith
import Derived.Deep.RegionLaw
import Derived.Test.YtomldoijcclhhaaGreatShelf
namespace Go.Proofs.YtomldoijcclhhaaGreat
open Go.RowKit

namespace Gf
theorem code_none {z : Int} (h : ∀ j < 8, z ≠ ((32 * 2 ^ j : Nat) : Int)) : code z = 0 := by
  have h0 := h 0 (by decide); have h1 := h 1 (by decide); have h2 := h 2 (by decide); have h3 := h 3 (by decide)
  have h4 := h 4 (by decide); have h5 := h 5 (by decide); have h6 := h 6 (by decide); have h7 := h 7 (by decide)
  unfold code
  simp_all
theorem code_hit {k : Nat} (h : k < 8) : code ((32 * 2 ^ k : Nat) : Int) = k + 1 := by
  have : k = 0 ∨ k = 1 ∨ k = 2 ∨ k = 3 ∨ k = 4 ∨ k = 5 ∨ k = 6 ∨ k = 7 := by omega
  rcases this with h | h | h | h | h | h | h | h <;> subst h <;> decide
theorem shl32 {k : Nat} (h : k < 8) : wrap64 ((32 : Int) * 2 ^ k) = ((32 * 2 ^ k : Nat) : Int) := by
  have : k = 0 ∨ k = 1 ∨ k = 2 ∨ k = 3 ∨ k = 4 ∨ k = 5 ∨ k = 6 ∨ k = 7 := by omega
  rcases this with h | h | h | h | h | h | h | h <;> subst h <;> decide +kernel
theorem u64_small {k : Nat} (h : k < 8) : IntKind.u64.wrap (k : Int) = (k : Int) := by rw [IntKind.wrap_u64]; omega
end Gf
set_option maxHeartbeats 1000000 in
theorem gcode_any (z : Int) (w : World) :
    Calls Tryz.prog 83 #[.int .i64 z] w fun e w' => e = .returned (.int .i64 (Gf.code z)) ∧ w' = w := by
  go_enter Tryz.func83, Tryz.ntmps83
  go_wp2
  go_loopw [4] (fun i wr => ∃ k : Nat, k ≤ 8 ∧ i = .int .i64 k ∧ Hid (∀ j < k, z ≠ ((32 * 2 ^ j : Nat) : Int)) ∧ wr = w) (fun i _ => 8 - (intOf i).toNat)
  case atStart => exact ⟨0, Nat.zero_le _, rfl, fun j hj => absurd hj (Nat.not_lt_zero _), rfl⟩
  case round =>
    obtain ⟨k, hk, rfl, hno, rfl⟩ := hrel
    by_cases hlt : k < 8
    · have hw := Gf.shl32 hlt
      have hst : Hid (z ≠ ((32 * 2 ^ k : Nat) : Int) → ∀ j < k + 1, z ≠ ((32 * 2 ^ j : Nat) : Int)) := fun hz j hj => by
        rcases Nat.lt_succ_iff_lt_or_eq.1 hj with h | h
        · exact hno.out j h
        · rw [h]; exact hz
      have hc : Hid (z = ((32 * 2 ^ k : Nat) : Int) → Gf.code z = k + 1) := fun h => by rw [h]; exact Gf.code_hit hlt
      have hu := Gf.u64_small hlt
      clear hno
      generalize 32 * 2 ^ k = Y at *
      by_cases he : z = (Y : Int)
      · have hd : (z == (Y : Int)) = true := beq_iff_eq.2 he
        have hc : Hid (Gf.code z = k + 1) := hc.out he
        clear he hst
        go_wp2
        go_ret
        exact ⟨ret_i (by rw [hc.out]; go_num), rfl⟩
      · have hd : (z == (Y : Int)) = false := beq_eq_false_iff_ne.2 he
        have hst := hst.out he
        have hst : Hid _ := hst
        clear he hc
        go_wp2
        go_roundw
        case rel => exact ⟨k + 1, by omega, by go_num, hst, trivial⟩
        case measure => simp [intOf]; omega
    · obtain rfl : k = 8 := by omega
      have hr : Hid (Gf.code z = 0) := Gf.code_none hno.out
      clear hno
      go_wp2
      go_ret
      exact ⟨ret_i (by rw [hr.out]; rfl), rfl⟩
set_option maxHeartbeats 1000000 in
theorem rgcode_any (z : Int) (w : World) :
    Calls Tryz.prog 39 #[.int .i64 z] w fun e w' => e = .returned (.int .i64 (Gf.code z)) ∧ w' = w := by
  go_enter Tryz.func39, Tryz.ntmps39
  go_wp2
  go_loopw [4] (fun i wr => ∃ k : Nat, k ≤ 8 ∧ i = .int .i64 k ∧ Hid (∀ j < k, z ≠ ((32 * 2 ^ j : Nat) : Int)) ∧ wr = w) (fun i _ => 8 - (intOf i).toNat)
  case atStart => exact ⟨0, Nat.zero_le _, rfl, fun j hj => absurd hj (Nat.not_lt_zero _), rfl⟩
  case round =>
    obtain ⟨k, hk, rfl, hno, rfl⟩ := hrel
    by_cases hlt : k < 8
    · have hw := Gf.shl32 hlt
      have hst : Hid (z ≠ ((32 * 2 ^ k : Nat) : Int) → ∀ j < k + 1, z ≠ ((32 * 2 ^ j : Nat) : Int)) := fun hz j hj => by
        rcases Nat.lt_succ_iff_lt_or_eq.1 hj with h | h
        · exact hno.out j h
        · rw [h]; exact hz
      have hc : Hid (z = ((32 * 2 ^ k : Nat) : Int) → Gf.code z = k + 1) := fun h => by rw [h]; exact Gf.code_hit hlt
      have hu := Gf.u64_small hlt
      clear hno
      generalize 32 * 2 ^ k = Y at *
      by_cases he : z = (Y : Int)
      · have hd : (z == (Y : Int)) = true := beq_iff_eq.2 he
        have hc : Hid (Gf.code z = k + 1) := hc.out he
        clear he hst
        go_wp2
        go_ret
        exact ⟨ret_i (by rw [hc.out]; go_num), rfl⟩
      · have hd : (z == (Y : Int)) = false := beq_eq_false_iff_ne.2 he
        have hst := hst.out he
        have hst : Hid _ := hst
        clear he hc
        go_wp2
        go_roundw
        case rel => exact ⟨k + 1, by omega, by go_num, hst, trivial⟩
        case measure => simp [intOf]; omega
    · obtain rfl : k = 8 := by omega
      have hr : Hid (Gf.code z = 0) := Gf.code_none hno.out
      clear hno
      go_wp2
      go_ret
      exact ⟨ret_i (by rw [hr.out]; rfl), rfl⟩

theorem isPart_any (n : Int) (w : World) :
    Calls Tryz.prog 177 #[.int .i64 n] w fun e w' => e = .returned (.bool (decide (0 ≤ n ∧ n ≤ 7))) ∧ w' = w := by
  by_cases h1 : 0 ≤ n
  · by_cases h2 : n ≤ 7
    · have hr : Hid (decide (0 ≤ n ∧ n ≤ 7) = true) := decide_eq_true ⟨h1, h2⟩
      go_enter Tryz.func177, Tryz.ntmps177
      go_wp2
      go_ret
      exact ⟨ret_b (by first | exact hr.out.symm | rfl | (rw [hr.out]; simp; omega) | (simp; omega)), rfl⟩
    · have hr : Hid (decide (0 ≤ n ∧ n ≤ 7) = false) := decide_eq_false fun h => h2 h.2
      go_enter Tryz.func177, Tryz.ntmps177
      go_wp2
      go_ret
      exact ⟨ret_b (by first | exact hr.out.symm | rfl | (rw [hr.out]; simp; omega) | (simp; omega)), rfl⟩
  · have hr : Hid (decide (0 ≤ n ∧ n ≤ 7) = false) := decide_eq_false fun h => h1 h.1
    go_enter Tryz.func177, Tryz.ntmps177
    go_wp2
    go_ret
    exact ⟨ret_b (by first | exact hr.out.symm | rfl | (rw [hr.out]; simp; omega) | (simp; omega)), rfl⟩

end Go.Proofs.YtomldoijcclhhaaGreat

namespace Go.Proofs.YtomldoijcclhhaaGreat
open Go.RowKit
namespace Gf
theorem below1 (w : World) (o : Obj) : Below w.heap.size w (w.alloc o) := (Below.refl _ w).alloc (Nat.le_refl _) _
theorem or_ctl {t h l : Nat} (ht : t < 4) (hh : h < 8) (hl : l < 8) : bits .or .i64 ((t : Int) * 64) ((h : Int) * 8) = ((t * 64 + h * 8 : Nat) : Int) ∧ bits .or .i64 ((t * 64 + h * 8 : Nat) : Int) (l : Int) = ((t * 64 + h * 8 + l : Nat) : Int) := by
  have e1 := Bit.or_i64 (t * 64) (h * 8) (by omega) (by omega)
  have e2 := Bit.or_i64 (t * 64 + h * 8) l (by omega) (by omega)
  have a1 : t * 64 ||| h * 8 = t * 64 + h * 8 := by
    have := Nat.two_pow_add_eq_or_of_lt (i := 6) (b := h * 8) (by omega) t
    rw [Nat.mul_comm t 64]; exact this.symm
  have a2 : t * 64 + h * 8 ||| l = t * 64 + h * 8 + l := by
    have := Nat.two_pow_add_eq_or_of_lt (i := 3) (b := l) (by omega) (t * 8 + h)
    rw [show t * 64 + h * 8 = 2 ^ 3 * (t * 8 + h) by omega]; exact this.symm
  rw [a1] at e1
  rw [a2] at e2
  exact ⟨by rw [← e1]; congr 1, e2⟩
end Gf
set_option maxHeartbeats 1000000 in
theorem gctl_any (t h l : Nat) (ht : t < 4) (hh : h < 8) (hl : l < 8) (z : Int) (d : ByteArray) (w : World) :
    Calls Tryz.prog 178 #[.agg #[.int .i64 t, .int .i64 h, .int .i64 l, .int .i64 z, .string d]] w fun e w' => e = .returned (.int .i64 ((t * 64 + h * 8 + l : Nat) : Int)) ∧ Below w.heap.size w w' := by
  have bw := Gf.below1 w (.cells #[.int .i64 t, .int .i64 h, .int .i64 l, .int .i64 z, .string d] 93)
  obtain ⟨o1, o2⟩ := Gf.or_ctl ht hh hl
  generalize t * 64 + h * 8 + l = c at *
  generalize t * 64 + h * 8 = c1 at *
  go_enter Tryz.func178, Tryz.ntmps178
  go_wp2
  go_ret
  exact ⟨rfl, bw⟩
set_option maxHeartbeats 1000000 in
theorem rgctl_any (t h l : Nat) (ht : t < 4) (hh : h < 8) (hl : l < 8) (z : Int) (d : ByteArray) (w : World) :
    Calls Tryz.prog 134 #[.agg #[.int .i64 t, .int .i64 h, .int .i64 l, .int .i64 z, .string d]] w fun e w' => e = .returned (.int .i64 ((t * 64 + h * 8 + l : Nat) : Int)) ∧ Below w.heap.size w w' := by
  have bw := Gf.below1 w (.cells #[.int .i64 t, .int .i64 h, .int .i64 l, .int .i64 z, .string d] 93)
  obtain ⟨o1, o2⟩ := Gf.or_ctl ht hh hl
  generalize t * 64 + h * 8 + l = c at *
  generalize t * 64 + h * 8 = c1 at *
  go_enter Tryz.func134, Tryz.ntmps134
  go_wp2
  go_ret
  exact ⟨rfl, bw⟩
namespace Gf
/-- A row of bytes as cells. -/
def cells (l : List UInt8) : Array Value := (l.map fun b => Value.int .u8 (b.toNat : Int)).toArray
theorem conv_of {W : World} {b : Nat} {l : List UInt8} (hb : W.heap[b]? = some (.cells (cells l) 5)) :
    (convert 65 9 (.slice (some ⟨b, 0, none⟩) l.length l.length)).run Tryz.prog W = .ok (.string ⟨l.toArray⟩) W :=
  run_convert_bytes_back W 65 9 5 ⟨b, 0, none⟩ l.length l Tryz.underlying65 Tryz.underlying5 Tryz.underlying9 (fun j hj => by
    have e : (⟨b, 0, none⟩ : Addr).add j = ⟨b, j, none⟩ := by cases j <;> simp [Addr.add]
    rw [e, Lib.cell_of_heap hb j]
    simp [cells, hj])
/-- Numbers below 256 as cells. -/
def nums (l : List Nat) : Array Value := (l.map fun n : Nat => Value.int .u8 (n : Int)).toArray
theorem conv_nat {W : World} {b : Nat} {l : List Nat} (h : ∀ n ∈ l, n < 256) (hb : W.heap[b]? = some (.cells (nums l) 5)) :
    (convert 65 9 (.slice (some ⟨b, 0, none⟩) l.length l.length)).run Tryz.prog W = .ok (.string ⟨(l.map UInt8.ofNat).toArray⟩) W := by
  have e : nums l = cells (l.map UInt8.ofNat) := by
    unfold nums cells
    rw [List.map_map]
    congr 1
    apply List.map_congr_left
    intro n hn
    show _ = Value.int .u8 ((UInt8.ofNat n).toNat : Int)
    rw [ofNat_toNat (h n hn)]
  rw [e] at hb
  have := conv_of hb
  rw [List.length_map] at this
  exact this
theorem heap_new (W : World) (o : Obj) : (W.alloc o).heap[W.heap.size]? = some o := (MapKept.heap_alloc W o).1
theorem heap_old {W : World} {b : Nat} {o : Obj} (h : W.heap[b]? = some o) (o' : Obj) : (W.alloc o').heap[b]? = some o := by
  have hlt : b < W.heap.size := by
    rcases Nat.lt_or_ge b W.heap.size with h' | h'
    · exact h'
    · rw [Array.getElem?_eq_none h'] at h; cases h
  rw [Lib.alloc_old W o' b hlt]; exact h
theorem bel2 {B : Nat} {w W : World} (h : Below B w W) (a b : Obj) (hB : B ≤ w.heap.size) : Below B w ((W.alloc a).alloc b) := (h.alloc (Nat.le_trans hB h.size) a).alloc (Nat.le_trans hB (h.alloc (Nat.le_trans hB h.size) a).size) b
theorem alloc_size (W : World) (o : Obj) : (W.alloc o).heap.size = W.heap.size + 1 := by simp
theorem ba_app (a b : List UInt8) : (⟨a.toArray⟩ : ByteArray) ++ ⟨b.toArray⟩ = ⟨(a ++ b).toArray⟩ := by
  apply ByteArray.ext; simp
end Gf
set_option maxHeartbeats 1000000 in
theorem gtext_any (k s c : Nat) (hk : k < 256) (hs : s < 65536) (hc : c < 256) (w : World) :
    Calls Tryz.prog 142 #[.agg #[.int .i64 k, .int .i64 s, .int .i64 c]] w fun e w' => e = .returned (.string ⟨(Gf.head k s c).toArray⟩) ∧ Below w.heap.size w w' := by
  have bw := Gf.below1 w (.cells #[.int .i64 k, .int .i64 s, .int .i64 c] 132)
  have f1 : IntKind.u8.wrap (k : Int) = (k : Int) := by rw [IntKind.wrap_u8]; omega
  have f2 : IntKind.u8.wrap (s : Int) = ((s % 256 : Nat) : Int) := by rw [IntKind.wrap_u8]; omega
  have f3 : IntKind.u8.wrap ((s : Int) / 256) = ((s / 256 : Nat) : Int) := by rw [IntKind.wrap_u8]; omega
  have f4 : IntKind.u8.wrap (c : Int) = (c : Int) := by rw [IntKind.wrap_u8]; omega
  have hr : Hid (Gf.head k s c = [16, UInt8.ofNat k, UInt8.ofNat (s % 256), UInt8.ofNat (s / 256), UInt8.ofNat c, UInt8.ofNat (k ^^^ s % 256 ^^^ s / 256 ^^^ c)]) := rfl
  have ha : s % 256 < 256 := Nat.mod_lt _ (by decide)
  have hb : s / 256 < 256 := by omega
  generalize s % 256 = a at *
  generalize s / 256 = b at *
  have hcv : (convert 65 9 (.slice (some ⟨w.heap.size + 1, 0, none⟩) 4 4)).run Tryz.prog ((w.alloc (.cells #[.int .i64 k, .int .i64 s, .int .i64 c] 132)).alloc (.cells #[.int .u8 k, .int .u8 a, .int .u8 b, .int .u8 c] 5)) = .ok (.string ⟨#[UInt8.ofNat k, UInt8.ofNat a, UInt8.ofNat b, UInt8.ofNat c]⟩) _ :=
    Gf.conv_nat (l := [k, a, b, c]) (by simp; omega) (by have h := Gf.heap_new (w.alloc (.cells #[.int .i64 k, .int .i64 s, .int .i64 c] 132)) (.cells #[.int .u8 k, .int .u8 a, .int .u8 b, .int .u8 c] 5); rw [Gf.alloc_size] at h; exact h)
  have b2 : Below w.heap.size w ((w.alloc (.cells #[.int .i64 k, .int .i64 s, .int .i64 c] 132)).alloc (.cells #[.int .u8 k, .int .u8 a, .int .u8 b, .int .u8 c] 5)) := bw.alloc bw.size _
  go_enter Tryz.func142, Tryz.ntmps142
  go_upto_region 2 with fail
  clear hcv
  generalize (w.alloc (.cells #[.int .i64 k, .int .i64 s, .int .i64 c] 132)).alloc (.cells #[.int .u8 k, .int .u8 a, .int .u8 b, .int .u8 c] 5) = W at *
  have hx : Hid (Chk.xor (⟨#[UInt8.ofNat k, UInt8.ofNat a, UInt8.ofNat b, UInt8.ofNat c]⟩ : ByteArray).data.toList = k ^^^ a ^^^ b ^^^ c) := by
    show _ = _
    simp [Chk.xor, Gf.ofNat_toNat hk, Gf.ofNat_toNat ha, Gf.ofNat_toNat hb, Gf.ofNat_toNat hc]
  have hX := Gf.xor_byte k a b c hk ha hb hc
  have HX := fun w => xor_any ⟨#[UInt8.ofNat k, UInt8.ofNat a, UInt8.ofNat b, UInt8.ofNat c]⟩ w (show 4 ≤ maxLen by decide)
  rw [hx.out] at HX
  generalize k ^^^ a ^^^ b ^^^ c = x at *
  have hs4 : (⟨#[UInt8.ofNat k, UInt8.ofNat a, UInt8.ofNat b, UInt8.ofNat c]⟩ : ByteArray).size = 4 := rfl
  have hres : Hid ((⟨#[16]⟩ : ByteArray) ++ ⟨#[UInt8.ofNat k, UInt8.ofNat a, UInt8.ofNat b, UInt8.ofNat c]⟩ ++ ⟨#[UInt8.ofNat x]⟩ = ⟨(Gf.head k s c).toArray⟩) := by
    show _ = _
    rw [hr.out]
    rfl
  clear hx hr
  generalize (⟨#[UInt8.ofNat k, UInt8.ofNat a, UInt8.ofNat b, UInt8.ofNat c]⟩ : ByteArray) = T at *
  have f5 : IntKind.u8.wrap (x : Int) = (x : Int) := by rw [IntKind.wrap_u8]; omega
  clear f1 f2 f3 f4
  have cA1 : (convert 65 9 (.slice (some ⟨W.heap.size, 0, none⟩) 1 1)).run Tryz.prog (W.alloc (.cells #[.int .u8 16] 5)).drew = .ok (.string ⟨#[16]⟩) _ := Gf.conv_nat (l := [16]) (by simp <;> omega) (Gf.heap_new W _)
  have cA2 : (convert 65 9 (.slice (some ⟨W.heap.size, 0, none⟩) 1 1)).run Tryz.prog ((W.alloc (.cells #[.int .u8 16] 5)).alloc (.cells #[.int .u8 x] 5)).drew = .ok (.string ⟨#[16]⟩) _ := Gf.conv_nat (l := [16]) (by simp <;> omega) (Gf.heap_old (Gf.heap_new W _) _)
  have cA3 : (convert 65 9 (.slice (some ⟨W.heap.size + 1, 0, none⟩) 1 1)).run Tryz.prog ((W.alloc (.cells #[.int .u8 16] 5)).alloc (.cells #[.int .u8 x] 5)).drew = .ok (.string ⟨#[UInt8.ofNat x]⟩) _ := Gf.conv_nat (l := [x]) (by simp <;> omega) (by have h := Gf.heap_new (W.alloc (.cells #[.int .u8 16] 5)) (.cells #[.int .u8 x] 5); rw [Gf.alloc_size] at h; exact h)
  have cB1 : (convert 65 9 (.slice (some ⟨W.heap.size, 0, none⟩) 1 1)).run Tryz.prog (W.alloc (.cells #[.int .u8 x] 5)).drew = .ok (.string ⟨#[UInt8.ofNat x]⟩) _ := Gf.conv_nat (l := [x]) (by simp <;> omega) (Gf.heap_new W _)
  have cB2 : (convert 65 9 (.slice (some ⟨W.heap.size, 0, none⟩) 1 1)).run Tryz.prog ((W.alloc (.cells #[.int .u8 x] 5)).alloc (.cells #[.int .u8 16] 5)).drew = .ok (.string ⟨#[UInt8.ofNat x]⟩) _ := Gf.conv_nat (l := [x]) (by simp <;> omega) (Gf.heap_old (Gf.heap_new W _) _)
  have cB3 : (convert 65 9 (.slice (some ⟨W.heap.size + 1, 0, none⟩) 1 1)).run Tryz.prog ((W.alloc (.cells #[.int .u8 x] 5)).alloc (.cells #[.int .u8 16] 5)).drew = .ok (.string ⟨#[16]⟩) _ := Gf.conv_nat (l := [16]) (by simp <;> omega) (by have h := Gf.heap_new (W.alloc (.cells #[.int .u8 x] 5)) (.cells #[.int .u8 16] 5); rw [Gf.alloc_size] at h; exact h)
  have HXh : Hid (∀ w : World, Calls Tryz.prog 181 #[.string T] w fun e w' => e = .returned (.int .i64 x) ∧ w' = w) := HX
  clear HX
  go_region_with (go_at_call 181; refine (HXh.out _).mono ?_; rintro e w2 ⟨rfl, rfl⟩)
  all_goals
    go_wp2
    go_ret
    exact ⟨ret_s (by first | exact hres.out | rw [hres.out]), by first | exact (Gf.bel2 b2 _ _ (Nat.le_refl _)).drew | exact Gf.bel2 b2 _ _ (Nat.le_refl _)⟩
end Go.Proofs.YtomldoijcclhhaaGreat

namespace Go.Proofs.YtomldoijcclhhaaGreat
open Go.RowKit
namespace Gf
theorem repeat0 : ∀ c : Nat, Lib.repeatL [(0 : UInt8)] c = List.replicate c 0
  | 0 => rfl
  | c + 1 => by rw [Lib.repeatL, repeat0 c, List.replicate_succ]; rfl
theorem len_eq (s : ByteArray) : s.data.toList.length = s.size := by rw [Array.length_toList]; rfl
end Gf
theorem Gf.app_size (a b : ByteArray) : (a ++ b).size = a.size + b.size := by simp
set_option maxHeartbeats 1000000 in
theorem gfield_any (d : ByteArray) (z : Nat) (h : d.size < z) (hz : z ≤ 4096) (w : World) :
    Calls Tryz.prog 180 #[.string d, .int .i64 z] w fun e w' => e = .returned (.string ⟨(Gf.field d.data.toList z).toArray⟩) ∧ Below w.heap.size w w' := by
  obtain ⟨n, hn⟩ : ∃ n, z = d.size + n := ⟨z - d.size, by omega⟩
  have hn0 : 0 < n := by omega
  have hnz : n ≤ 4096 := by omega
  have hds : d.size ≤ 4096 := by omega
  have hsub : (z : Int) - (d.size : Int) = (n : Int) := by omega
  have hfd : Hid (Gf.field d.data.toList z = Gf.cnt n ++ (d.data.toList ++ List.replicate (n - (Gf.cnt n).length) 0)) := by
    show _ = _
    unfold Gf.field
    rw [Gf.len_eq, show z - d.size = n by omega]
  replace hn : Hid (z = d.size + n) := hn
  by_cases h1 : n < 128
  · have hc1 : Gf.cnt n = [UInt8.ofNat n] := by unfold Gf.cnt; rw [if_pos h1]
    have f1 : IntKind.u8.wrap (n : Int) = (n : Int) := by rw [IntKind.wrap_u8]; omega
    have hd1 : decide ((128 : Int) ≤ (n : Int)) = false := by simp; omega
    have hcv : (convert 65 9 (.slice (some ⟨w.heap.size, 0, none⟩) 1 1)).run Tryz.prog (w.alloc (.cells #[.int .u8 n] 5)) = .ok (.string ⟨#[UInt8.ofNat n]⟩) _ := Gf.conv_nat (l := [n]) (by simp <;> omega) (Gf.heap_new w _)
    have bw := Gf.below1 w (.cells #[.int .u8 n] 5)
    obtain ⟨Q, hQ⟩ : ∃ Q, n - 1 = Q := ⟨_, rfl⟩
    replace hQ : Hid (n - 1 = Q) := hQ
    have hres : Hid ((⟨#[UInt8.ofNat n]⟩ : ByteArray) ++ d ++ ⟨(Lib.repeatL [0] Q).toArray⟩ = ⟨(Gf.field d.data.toList z).toArray⟩) := by
      show _ = _
      rw [hfd.out, hc1, Gf.repeat0]
      have e : d = ⟨d.data.toList.toArray⟩ := rfl
      rw [e, show (⟨#[UInt8.ofNat n]⟩ : ByteArray) = ⟨([UInt8.ofNat n] : List UInt8).toArray⟩ from rfl, Gf.ba_app, Gf.ba_app, List.append_assoc]
      rw [show n - ([UInt8.ofNat n] : List UInt8).length = Q from hQ.out]
    have hXs : Hid (((⟨#[UInt8.ofNat n]⟩ : ByteArray) ++ d).size = 1 + d.size) := Gf.app_size _ _
    go_enter Tryz.func180, Tryz.ntmps180
    go_upto_region 6 with fail
    generalize (⟨#[UInt8.ofNat n]⟩ : ByteArray) ++ d = X at *
    generalize w.alloc (.cells #[.int .u8 n] 5) = W at *
    have hsX : (z : Int) - (X.size : Int) = (Q : Int) := by have := hXs.out; have := hQ.out; have := hn.out; omega
    have hXb : X.size ≤ 5000 := by have := hXs.out; omega
    have hQb : Q ≤ 4096 := by have := hQ.out; omega
    have HR : Hid (∀ W, Below w.heap.size w W → Calls Tryz.prog 199 #[.string ⟨#[0]⟩, .int .i64 Q] W fun e w' => e = .returned (.string ⟨(Lib.repeatL [0] Q).toArray⟩) ∧ Below w.heap.size w w') := fun W hW =>
      (Tryz.strings_Repeat ⟨#[0]⟩ Q W (by omega) (by show 1 * Q ≤ _; omega)).mono fun e w' ⟨a, b⟩ => ⟨a, hW.trans (b.mono hW.size)⟩
    have hRs : (⟨(Lib.repeatL [0] Q).toArray⟩ : ByteArray).size ≤ 4096 := by show (Lib.repeatL [0] Q).length ≤ _; rw [Gf.repeat0, List.length_replicate]; exact hQb
    generalize (⟨(Lib.repeatL [0] Q).toArray⟩ : ByteArray) = R at *
    clear hcv
    go_wp2_with (go_at_call 199; refine (HR.out _ bw).mono ?_; rintro e w2 ⟨rfl, b2⟩)
    go_ret
    exact ⟨ret_s hres.out, b2⟩
  · have hc1 : Gf.cnt n = [UInt8.ofNat (n % 128 + 128), UInt8.ofNat (n / 128)] := by unfold Gf.cnt; rw [if_neg h1]
    have f1 : IntKind.u8.wrap (n : Int) = ((n % 256 : Nat) : Int) := by rw [IntKind.wrap_u8]; omega
    have f2 : IntKind.u8.wrap ((n : Int).tmod 128 + 128) = ((n % 128 + 128 : Nat) : Int) := by
      have e : (n : Int).tmod 128 = ((n % 128 : Nat) : Int) := by rw [Int.ofNat_tmod]; rfl
      rw [e, IntKind.wrap_u8]; omega
    have f2' : IntKind.u8.wrap ((n : Int) % 128 + 128) = ((n % 128 + 128 : Nat) : Int) := by rw [IntKind.wrap_u8]; omega
    have f3 : IntKind.u8.wrap ((n : Int).tdiv 128) = ((n / 128 : Nat) : Int) := by
      have e : (n : Int).tdiv 128 = ((n / 128 : Nat) : Int) := by rw [Int.ofNat_tdiv]; rfl
      rw [e, IntKind.wrap_u8]; omega
    have f3' : IntKind.u8.wrap ((n : Int) / 128) = ((n / 128 : Nat) : Int) := by rw [IntKind.wrap_u8]; omega
    have hd1 : decide ((128 : Int) ≤ (n : Int)) = true := by simp; omega
    have ha : n % 128 + 128 < 256 := by omega
    have hb : n / 128 < 256 := by omega
    generalize n % 256 = y at *
    generalize n % 128 + 128 = a at *
    generalize n / 128 = b at *
    have hcv : (convert 65 9 (.slice (some ⟨w.heap.size + 1, 0, none⟩) 2 2)).run Tryz.prog ((w.alloc (.cells #[.int .u8 y] 5)).alloc (.cells #[.int .u8 a, .int .u8 b] 5)) = .ok (.string ⟨#[UInt8.ofNat a, UInt8.ofNat b]⟩) _ := Gf.conv_nat (l := [a, b]) (by simp <;> omega) (by have h := Gf.heap_new (w.alloc (.cells #[.int .u8 y] 5)) (.cells #[.int .u8 a, .int .u8 b] 5); rw [Gf.alloc_size] at h; exact h)
    have bw := (Gf.below1 w (.cells #[.int .u8 y] 5)).alloc (Gf.below1 w (.cells #[.int .u8 y] 5)).size (.cells #[.int .u8 a, .int .u8 b] 5)
    obtain ⟨Q, hQ⟩ : ∃ Q, n - 2 = Q := ⟨_, rfl⟩
    replace hQ : Hid (n - 2 = Q) := hQ
    have hres : Hid ((⟨#[UInt8.ofNat a, UInt8.ofNat b]⟩ : ByteArray) ++ d ++ ⟨(Lib.repeatL [0] Q).toArray⟩ = ⟨(Gf.field d.data.toList z).toArray⟩) := by
      show _ = _
      rw [hfd.out, hc1, Gf.repeat0]
      have e : d = ⟨d.data.toList.toArray⟩ := rfl
      rw [e, show (⟨#[UInt8.ofNat a, UInt8.ofNat b]⟩ : ByteArray) = ⟨([UInt8.ofNat a, UInt8.ofNat b] : List UInt8).toArray⟩ from rfl, Gf.ba_app, Gf.ba_app, List.append_assoc]
      rw [show n - ([UInt8.ofNat a, UInt8.ofNat b] : List UInt8).length = Q from hQ.out]
    have hXs : Hid (((⟨#[UInt8.ofNat a, UInt8.ofNat b]⟩ : ByteArray) ++ d).size = 2 + d.size) := Gf.app_size _ _
    go_enter Tryz.func180, Tryz.ntmps180
    go_upto_region 6 with fail
    generalize (⟨#[UInt8.ofNat a, UInt8.ofNat b]⟩ : ByteArray) ++ d = X at *
    generalize (w.alloc (.cells #[.int .u8 y] 5)).alloc (.cells #[.int .u8 a, .int .u8 b] 5) = W at *
    have hsX : (z : Int) - (X.size : Int) = (Q : Int) := by have := hXs.out; have := hQ.out; have := hn.out; omega
    have hXb : X.size ≤ 5000 := by have := hXs.out; omega
    have hQb : Q ≤ 4096 := by have := hQ.out; omega
    have HR : Hid (∀ W, Below w.heap.size w W → Calls Tryz.prog 199 #[.string ⟨#[0]⟩, .int .i64 Q] W fun e w' => e = .returned (.string ⟨(Lib.repeatL [0] Q).toArray⟩) ∧ Below w.heap.size w w') := fun W hW =>
      (Tryz.strings_Repeat ⟨#[0]⟩ Q W (by omega) (by show 1 * Q ≤ _; omega)).mono fun e w' ⟨a, b⟩ => ⟨a, hW.trans (b.mono hW.size)⟩
    have hRs : (⟨(Lib.repeatL [0] Q).toArray⟩ : ByteArray).size ≤ 4096 := by show (Lib.repeatL [0] Q).length ≤ _; rw [Gf.repeat0, List.length_replicate]; exact hQb
    generalize (⟨(Lib.repeatL [0] Q).toArray⟩ : ByteArray) = R at *
    clear hcv
    go_wp2_with (go_at_call 199; refine (HR.out _ bw).mono ?_; rintro e w2 ⟨rfl, b2⟩)
    go_ret
    exact ⟨ret_s hres.out, b2⟩
end Go.Proofs.YtomldoijcclhhaaGreat

namespace Go.Proofs.YtomldoijcclhhaaGreat
open Go.RowKit
namespace Gf
theorem control_nat (c : Nat) : ∃ s : Nat, Chk.control (c : Int) = (s : Int) ∧ s < 65536 := ⟨(Chk.control (c : Int)).toNat, by have := control_range c; omega, by have := control_range c; omega⟩
theorem packet_nat (l : List UInt8) (c : Nat) : ∃ s : Nat, Chk.packet l (c : Int) = (s : Int) ∧ s < 65536 := ⟨(Chk.packet l (c : Int)).toNat, by have := packet_range l c; omega, by have := packet_range l c; omega⟩
end Gf
set_option maxHeartbeats 1000000 in
theorem withBody_any (t h l : Nat) (z : Int) (d bd : ByteArray) (ht : t < 4) (hh : h < 8) (hl : l < 8) (hb : bd.size ≤ 5000) (s : Nat) (hs : Chk.packet bd.data.toList ((t * 64 + h * 8 + l : Nat) : Int) = (s : Int)) (hs2 : s < 65536) (w : World) :
    Calls Tryz.prog 179 #[.agg #[.int .i64 t, .int .i64 h, .int .i64 l, .int .i64 z, .string d], .string bd] w fun e w' => e = .returned (.string ⟨(Gf.head (Gf.code z) s (t * 64 + h * 8 + l) ++ bd.data.toList).toArray⟩) ∧ Below w.heap.size w w' := by
  have bw := Gf.below1 w (.cells #[.int .i64 t, .int .i64 h, .int .i64 l, .int .i64 z, .string d] 93)
  have k0 : Rg.Bk w.heap.size [.int .i64 t, .int .i64 h, .int .i64 l, .int .i64 z, .string d] 93 (w.alloc (.cells #[.int .i64 t, .int .i64 h, .int .i64 l, .int .i64 z, .string d] 93)) := Rg.Bk.new rfl
  have HC : Hid (∀ W, Below w.heap.size w W → Rg.Bk w.heap.size [.int .i64 t, .int .i64 h, .int .i64 l, .int .i64 z, .string d] 93 W → Calls Tryz.prog 178 #[.agg #[.int .i64 t, .int .i64 h, .int .i64 l, .int .i64 z, .string d]] W fun e w' => e = .returned (.int .i64 ((t * 64 + h * 8 + l : Nat) : Int)) ∧ Below w.heap.size w w' ∧ Rg.Bk w.heap.size [.int .i64 t, .int .i64 h, .int .i64 l, .int .i64 z, .string d] 93 w') := fun W hW hk =>
    (gctl_any t h l ht hh hl z d W).mono fun e w' ⟨a, b⟩ => ⟨a, hW.trans (b.mono hW.size), hk.below b hk.lt⟩
  have hc : t * 64 + h * 8 + l < 256 := by omega
  generalize t * 64 + h * 8 + l = c at *
  have HK : Hid (∀ W, Calls Tryz.prog 83 #[.int .i64 z] W fun e w' => e = .returned (.int .i64 (Gf.code z)) ∧ w' = W) := fun W => gcode_any z W
  have HP : Hid (∀ W, Calls Tryz.prog 183 #[.string bd, .int .i64 c] W fun e w' => e = .returned (.int .i64 s) ∧ w' = W) := fun W => by have := packet_any bd c W (by unfold maxLen; omega); rwa [hs] at this
  have hcl := Gf.code_le z
  have HT : Hid (∀ W, Below w.heap.size w W → Calls Tryz.prog 142 #[.agg #[.int .i64 (Gf.code z), .int .i64 s, .int .i64 c]] W fun e w' => e = .returned (.string ⟨(Gf.head (Gf.code z) s c).toArray⟩) ∧ Below w.heap.size w w') := fun W hW =>
    (gtext_any (Gf.code z) s c (by omega) hs2 hc W).mono fun e w' ⟨a, b⟩ => ⟨a, hW.trans (b.mono hW.size)⟩
  have hres : Hid ((⟨(Gf.head (Gf.code z) s c).toArray⟩ : ByteArray) ++ bd = ⟨(Gf.head (Gf.code z) s c ++ bd.data.toList).toArray⟩) := Gf.ba_app _ bd.data.toList
  have hsz : (⟨(Gf.head (Gf.code z) s c).toArray⟩ : ByteArray).size = 6 := rfl
  generalize (⟨(Gf.head (Gf.code z) s c).toArray⟩ : ByteArray) = H at *
  generalize Gf.code z = k at *
  have c0 := k0.cell
  go_enter Tryz.func179, Tryz.ntmps179
  go_wp2_with (first
    | (go_at_call 178; refine (HC.out _ bw k0).mono ?_; rintro e w1 ⟨rfl, b1, k1⟩; have c1 := k1.cell)
    | (go_at_call 83; refine (HK.out _).mono ?_; rintro e w2 ⟨rfl, rfl⟩)
    | (go_at_call 183; refine (HP.out _).mono ?_; rintro e w2 ⟨rfl, rfl⟩)
    | (go_at_call 142; refine (HT.out _ (by assumption)).mono ?_; rintro e w2 ⟨rfl, b2⟩))
  go_ret
  exact ⟨ret_s hres.out, b2⟩
theorem Gf.beq0 {a b : Int} (h : ¬ a = b) : (a == b) = false := beq_eq_false_iff_ne.2 h
end Go.Proofs.YtomldoijcclhhaaGreat
