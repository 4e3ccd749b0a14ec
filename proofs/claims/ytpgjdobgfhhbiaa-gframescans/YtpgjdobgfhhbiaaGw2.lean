/-
  Walks of layer 11: the control byte, a head's text.
-/
import Derived.Test.YtpgjdobgfhhbiaaGw1
import Derived.Test.YtpgjdobgfhhbiaaRowG
import Derived.Laws.BytesArg
import Derived.Laws.IdiomStrings
import Derived.Lib.Builder
import Derived.Deep.RegionHeld3
import Derived.Deep.DeepCutAuto
import Derived.Deep.RegionWith
import Derived.Deep.RegionLaw
namespace Go.Proofs.Ytpgjdobgfhhbiaa
open Go.RowKit
namespace Gf
theorem below1 (w : World) (o : Obj) : Below w.heap.size w (w.alloc o) := (Below.refl _ w).alloc (Nat.le_refl _) _
theorem or_ctl {t h l : Nat} (ht : t < 4) (hh : h < 8) (hl : l < 8) : bits .or .i64 ((t : Int) * 64) ((h : Int) * 8) = ((t * 64 + h * 8 : Nat) : Int) ∧ bits .or .i64 ((t * 64 + h * 8 : Nat) : Int) (l : Int) = ((t * 64 + h * 8 + l : Nat) : Int) := by
  have e1 := Bit.or_i64 (t * 64) (h * 8) (by omega) (by omega)
  have e2 := Bit.or_i64 (t * 64 + h * 8) l (by omega) (by omega)
  have a1 : t * 64 ||| h * 8 = t * 64 + h * 8 := by
    have := Nat.two_pow_add_eq_or_of_lt (i := 6) (b := h * 8) (by omega) t
    rw [Nat.mul_comm t 64]; exact this.symm
  have a2 : t * 64 + h * 8 ||| l = t * 64 + h * 8 + l := by
    have := Nat.two_pow_add_eq_or_of_lt (i := 3) (b := l) (by omega) (t * 8 + h)
    rw [show t * 64 + h * 8 = 2 ^ 3 * (t * 8 + h) by omega]; exact this.symm
  rw [a1] at e1
  rw [a2] at e2
  exact ⟨by rw [← e1]; congr 1, e2⟩
end Gf
set_option maxHeartbeats 1000000 in
theorem gctl_any (t h l : Nat) (ht : t < 4) (hh : h < 8) (hl : l < 8) (z : Int) (d : ByteArray) (w : World) :
    Calls Try.prog 19 #[.agg #[.int .i64 t, .int .i64 h, .int .i64 l, .int .i64 z, .string d]] w fun e w' => e = .returned (.int .i64 ((t * 64 + h * 8 + l : Nat) : Int)) ∧ Below w.heap.size w w' := by
  have bw := Gf.below1 w (.cells #[.int .i64 t, .int .i64 h, .int .i64 l, .int .i64 z, .string d] 23)
  obtain ⟨o1, o2⟩ := Gf.or_ctl ht hh hl
  generalize t * 64 + h * 8 + l = c at *
  generalize t * 64 + h * 8 = c1 at *
  go_enter Try.func19, Try.ntmps19
  go_wp2
  go_ret
  exact ⟨rfl, bw⟩
set_option maxHeartbeats 1000000 in
theorem rgctl_any (t h l : Nat) (ht : t < 4) (hh : h < 8) (hl : l < 8) (z : Int) (d : ByteArray) (w : World) :
    Calls Try.prog 24 #[.agg #[.int .i64 t, .int .i64 h, .int .i64 l, .int .i64 z, .string d]] w fun e w' => e = .returned (.int .i64 ((t * 64 + h * 8 + l : Nat) : Int)) ∧ Below w.heap.size w w' := by
  have bw := Gf.below1 w (.cells #[.int .i64 t, .int .i64 h, .int .i64 l, .int .i64 z, .string d] 23)
  obtain ⟨o1, o2⟩ := Gf.or_ctl ht hh hl
  generalize t * 64 + h * 8 + l = c at *
  generalize t * 64 + h * 8 = c1 at *
  go_enter Try.func24, Try.ntmps24
  go_wp2
  go_ret
  exact ⟨rfl, bw⟩
/-- Whatever the type is: some number. -/
def SomeInt (e : Ending) : Prop := ∃ c : Int, e = .returned (.int .i64 c)
set_option maxHeartbeats 1000000 in
theorem rgctl_some (t h l z : Int) (d : ByteArray) (w : World) :
    Calls Try.prog 24 #[.agg #[.int .i64 t, .int .i64 h, .int .i64 l, .int .i64 z, .string d]] w fun e w' => SomeInt e ∧ Below w.heap.size w w' := by
  have bw := Gf.below1 w (.cells #[.int .i64 t, .int .i64 h, .int .i64 l, .int .i64 z, .string d] 23)
  go_enter Try.func24, Try.ntmps24
  go_wp2
  go_ret
  exact ⟨⟨_, rfl⟩, bw⟩

namespace Gf
/-- A row of bytes as cells. -/
def cells (l : List UInt8) : Array Value := (l.map fun b => Value.int .u8 (b.toNat : Int)).toArray
theorem conv_of {W : World} {b : Nat} {l : List UInt8} (hb : W.heap[b]? = some (.cells (cells l) 5)) :
    (convert 40 9 (.slice (some ⟨b, 0, none⟩) l.length l.length)).run Try.prog W = .ok (.string ⟨l.toArray⟩) W :=
  run_convert_bytes_back W 40 9 5 ⟨b, 0, none⟩ l.length l Try.underlying40 Try.underlying5 Try.underlying9 (fun j hj => by
    have e : (⟨b, 0, none⟩ : Addr).add j = ⟨b, j, none⟩ := by cases j <;> simp [Addr.add]
    rw [e, Lib.cell_of_heap hb j]
    simp [cells, hj])
/-- Numbers below 256 as cells. -/
def nums (l : List Nat) : Array Value := (l.map fun n : Nat => Value.int .u8 (n : Int)).toArray
theorem conv_nat {W : World} {b : Nat} {l : List Nat} (h : ∀ n ∈ l, n < 256) (hb : W.heap[b]? = some (.cells (nums l) 5)) :
    (convert 40 9 (.slice (some ⟨b, 0, none⟩) l.length l.length)).run Try.prog W = .ok (.string ⟨(l.map UInt8.ofNat).toArray⟩) W := by
  have e : nums l = cells (l.map UInt8.ofNat) := by
    unfold nums cells
    rw [List.map_map]
    congr 1
    apply List.map_congr_left
    intro n hn
    show _ = Value.int .u8 ((UInt8.ofNat n).toNat : Int)
    rw [ofNat_toNat (h n hn)]
  rw [e] at hb
  have := conv_of hb
  rw [List.length_map] at this
  exact this
theorem heap_new (W : World) (o : Obj) : (W.alloc o).heap[W.heap.size]? = some o := (MapKept.heap_alloc W o).1
theorem heap_old {W : World} {b : Nat} {o : Obj} (h : W.heap[b]? = some o) (o' : Obj) : (W.alloc o').heap[b]? = some o := by
  have hlt : b < W.heap.size := by
    rcases Nat.lt_or_ge b W.heap.size with h' | h'
    · exact h'
    · rw [Array.getElem?_eq_none h'] at h; cases h
  rw [Lib.alloc_old W o' b hlt]; exact h
theorem bel2 {B : Nat} {w W : World} (h : Below B w W) (a b : Obj) (hB : B ≤ w.heap.size) : Below B w ((W.alloc a).alloc b) := (h.alloc (Nat.le_trans hB h.size) a).alloc (Nat.le_trans hB (h.alloc (Nat.le_trans hB h.size) a).size) b
theorem alloc_size (W : World) (o : Obj) : (W.alloc o).heap.size = W.heap.size + 1 := by simp
theorem ba_app (a b : List UInt8) : (⟨a.toArray⟩ : ByteArray) ++ ⟨b.toArray⟩ = ⟨(a ++ b).toArray⟩ := by
  apply ByteArray.ext; simp
end Gf
set_option maxHeartbeats 1000000 in
theorem gtext_any (k s c : Nat) (hk : k < 256) (hs : s < 65536) (hc : c < 256) (w : World) :
    Calls Try.prog 21 #[.agg #[.int .i64 k, .int .i64 s, .int .i64 c]] w fun e w' => e = .returned (.string ⟨(Gf.head k s c).toArray⟩) ∧ Below w.heap.size w w' := by
  have bw := Gf.below1 w (.cells #[.int .i64 k, .int .i64 s, .int .i64 c] 45)
  have f1 : IntKind.u8.wrap (k : Int) = (k : Int) := by rw [IntKind.wrap_u8]; omega
  have f2 : IntKind.u8.wrap (s : Int) = ((s % 256 : Nat) : Int) := by rw [IntKind.wrap_u8]; omega
  have f3 : IntKind.u8.wrap ((s : Int) / 256) = ((s / 256 : Nat) : Int) := by rw [IntKind.wrap_u8]; omega
  have f4 : IntKind.u8.wrap (c : Int) = (c : Int) := by rw [IntKind.wrap_u8]; omega
  have hr : Hid (Gf.head k s c = [16, UInt8.ofNat k, UInt8.ofNat (s % 256), UInt8.ofNat (s / 256), UInt8.ofNat c, UInt8.ofNat (k ^^^ s % 256 ^^^ s / 256 ^^^ c)]) := rfl
  have ha : s % 256 < 256 := Nat.mod_lt _ (by decide)
  have hb : s / 256 < 256 := by omega
  generalize s % 256 = a at *
  generalize s / 256 = b at *
  have hcv : (convert 40 9 (.slice (some ⟨w.heap.size + 1, 0, none⟩) 4 4)).run Try.prog ((w.alloc (.cells #[.int .i64 k, .int .i64 s, .int .i64 c] 45)).alloc (.cells #[.int .u8 k, .int .u8 a, .int .u8 b, .int .u8 c] 5)) = .ok (.string ⟨#[UInt8.ofNat k, UInt8.ofNat a, UInt8.ofNat b, UInt8.ofNat c]⟩) _ :=
    Gf.conv_nat (l := [k, a, b, c]) (by simp; omega) (by have h := Gf.heap_new (w.alloc (.cells #[.int .i64 k, .int .i64 s, .int .i64 c] 45)) (.cells #[.int .u8 k, .int .u8 a, .int .u8 b, .int .u8 c] 5); rw [Gf.alloc_size] at h; exact h)
  have b2 : Below w.heap.size w ((w.alloc (.cells #[.int .i64 k, .int .i64 s, .int .i64 c] 45)).alloc (.cells #[.int .u8 k, .int .u8 a, .int .u8 b, .int .u8 c] 5)) := bw.alloc bw.size _
  go_enter Try.func21, Try.ntmps21
  go_upto_region 2 with fail
  clear hcv
  generalize (w.alloc (.cells #[.int .i64 k, .int .i64 s, .int .i64 c] 45)).alloc (.cells #[.int .u8 k, .int .u8 a, .int .u8 b, .int .u8 c] 5) = W at *
  have hx : Hid (Chk.xor (⟨#[UInt8.ofNat k, UInt8.ofNat a, UInt8.ofNat b, UInt8.ofNat c]⟩ : ByteArray).data.toList = k ^^^ a ^^^ b ^^^ c) := by
    show _ = _
    simp [Chk.xor, Gf.ofNat_toNat hk, Gf.ofNat_toNat ha, Gf.ofNat_toNat hb, Gf.ofNat_toNat hc]
  have hX := Gf.xor_byte k a b c hk ha hb hc
  have HX := fun w => xor_any ⟨#[UInt8.ofNat k, UInt8.ofNat a, UInt8.ofNat b, UInt8.ofNat c]⟩ w (show 4 ≤ maxLen by decide)
  rw [hx.out] at HX
  generalize k ^^^ a ^^^ b ^^^ c = x at *
  have hs4 : (⟨#[UInt8.ofNat k, UInt8.ofNat a, UInt8.ofNat b, UInt8.ofNat c]⟩ : ByteArray).size = 4 := rfl
  have hres : Hid ((⟨#[16]⟩ : ByteArray) ++ ⟨#[UInt8.ofNat k, UInt8.ofNat a, UInt8.ofNat b, UInt8.ofNat c]⟩ ++ ⟨#[UInt8.ofNat x]⟩ = ⟨(Gf.head k s c).toArray⟩) := by
    show _ = _
    rw [hr.out]
    rfl
  clear hx hr
  generalize (⟨#[UInt8.ofNat k, UInt8.ofNat a, UInt8.ofNat b, UInt8.ofNat c]⟩ : ByteArray) = T at *
  have f5 : IntKind.u8.wrap (x : Int) = (x : Int) := by rw [IntKind.wrap_u8]; omega
  clear f1 f2 f3 f4
  have cA1 : (convert 40 9 (.slice (some ⟨W.heap.size, 0, none⟩) 1 1)).run Try.prog (W.alloc (.cells #[.int .u8 16] 5)).drew = .ok (.string ⟨#[16]⟩) _ := Gf.conv_nat (l := [16]) (by simp <;> omega) (Gf.heap_new W _)
  have cA2 : (convert 40 9 (.slice (some ⟨W.heap.size, 0, none⟩) 1 1)).run Try.prog ((W.alloc (.cells #[.int .u8 16] 5)).alloc (.cells #[.int .u8 x] 5)).drew = .ok (.string ⟨#[16]⟩) _ := Gf.conv_nat (l := [16]) (by simp <;> omega) (Gf.heap_old (Gf.heap_new W _) _)
  have cA3 : (convert 40 9 (.slice (some ⟨W.heap.size + 1, 0, none⟩) 1 1)).run Try.prog ((W.alloc (.cells #[.int .u8 16] 5)).alloc (.cells #[.int .u8 x] 5)).drew = .ok (.string ⟨#[UInt8.ofNat x]⟩) _ := Gf.conv_nat (l := [x]) (by simp <;> omega) (by have h := Gf.heap_new (W.alloc (.cells #[.int .u8 16] 5)) (.cells #[.int .u8 x] 5); rw [Gf.alloc_size] at h; exact h)
  have cB1 : (convert 40 9 (.slice (some ⟨W.heap.size, 0, none⟩) 1 1)).run Try.prog (W.alloc (.cells #[.int .u8 x] 5)).drew = .ok (.string ⟨#[UInt8.ofNat x]⟩) _ := Gf.conv_nat (l := [x]) (by simp <;> omega) (Gf.heap_new W _)
  have cB2 : (convert 40 9 (.slice (some ⟨W.heap.size, 0, none⟩) 1 1)).run Try.prog ((W.alloc (.cells #[.int .u8 x] 5)).alloc (.cells #[.int .u8 16] 5)).drew = .ok (.string ⟨#[UInt8.ofNat x]⟩) _ := Gf.conv_nat (l := [x]) (by simp <;> omega) (Gf.heap_old (Gf.heap_new W _) _)
  have cB3 : (convert 40 9 (.slice (some ⟨W.heap.size + 1, 0, none⟩) 1 1)).run Try.prog ((W.alloc (.cells #[.int .u8 x] 5)).alloc (.cells #[.int .u8 16] 5)).drew = .ok (.string ⟨#[16]⟩) _ := Gf.conv_nat (l := [16]) (by simp <;> omega) (by have h := Gf.heap_new (W.alloc (.cells #[.int .u8 x] 5)) (.cells #[.int .u8 16] 5); rw [Gf.alloc_size] at h; exact h)
  have HXh : Hid (∀ w : World, Calls Try.prog 35 #[.string T] w fun e w' => e = .returned (.int .i64 x) ∧ w' = w) := HX
  clear HX
  go_region_with (go_at_call 35; refine (HXh.out _).mono ?_; rintro e w2 ⟨rfl, rfl⟩)
  all_goals
    go_wp2
    go_ret
    exact ⟨ret_s (by first | exact hres.out | rw [hres.out]), by first | exact (Gf.bel2 b2 _ _ (Nat.le_refl _)).drew | exact Gf.bel2 b2 _ _ (Nat.le_refl _)⟩
end Go.Proofs.Ytpgjdobgfhhbiaa
