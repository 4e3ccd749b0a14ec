/-
  Walks of layer 1: octet.Text (over the shelf's strconv.Itoa), the document's Text.
-/
import Derived.Test.YthjlhbbhdliffaaDoorRet
import Derived.Test.YthjlhbbhdliffaaDoorNum
import Derived.Lib.Builder
import Derived.Test.YthjlhbbhdliffaaDoorShelf
import Derived.Lib.ItoaMem
import Derived.Lib.ItoaLen
import Derived.Laws.BytesArg
namespace Go.Proofs.YthjlhbbhdliffaaDoor
open Go.RowKit

theorem below_grow (w : World) (k : Nat) (os : Array Obj) : Below w.heap.size w (Go.Sort.grow (w.drewN k) os) :=
  ⟨rfl, rfl, rfl, by simp [Go.Sort.grow], fun i hi => by
    simp only [Go.Sort.grow]
    have e : (w.drewN k).heap = w.heap := rfl
    rw [e, Array.getElem?_append_left hi]⟩
theorem tab_below {w w' : World} {name : String} {k : IntKind} {zs : List Int} (h : Lib.TabIs Tryd.prog w name k zs) (hb : Below w.heap.size w w') : Lib.TabIs Tryd.prog w' name k zs := by
  unfold Lib.TabIs World.var? at *
  cases hg : Tryd.prog.globalNamed name with
  | none => simp [hg] at h
  | some g =>
    simp only [hg, Option.bind_some] at h ⊢
    have hlt : g < w.heap.size := by
      rcases Nat.lt_or_ge g w.heap.size with h' | h'
      · exact h'
      · rw [Array.getElem?_eq_none h'] at h; simp at h
    rw [hb.block g hlt]
    exact h

set_option maxHeartbeats 400000 in
theorem text_any (n : Int) (w : World) (h0 : -9223372036854775808 ≤ n) (h1 : n ≤ 9223372036854775807) (htab : Lib.TabIs Tryd.prog w "internal/strconv.uint64pow10" .u64 Lib.pow10Tab) :
    Calls Tryd.prog 20 #[.int .i64 n] w fun e w' => e = .returned (.string ⟨(Lib.itoa n).toArray⟩) ∧ Below w.heap.size w w' := by
  have HA := Tryd.strconv_Itoa n h0 h1 w htab
  go_enter Tryd.func20, Tryd.ntmps20
  go_wp2_with (go_at_call 38; refine HA.mono ?_; rintro e w' ⟨rfl, k, os, rfl⟩)
  go_ret
  exact ⟨rfl, below_grow w k os⟩

theorem digits_step (u : Nat) (h : 9 < u) (l : List UInt8) : Lib.decDigits u ++ l = Lib.decDigits (u / 10) ++ (UInt8.ofNat (48 + u % 10) :: l) := by
  rw [Lib.decDigits, dif_neg (by omega), List.append_assoc]; rfl
theorem digits_last (u : Nat) (h : u ≤ 9) (l : List UInt8) : Lib.decDigits u ++ l = UInt8.ofNat (48 + u) :: l := by
  rw [Lib.decDigits, dif_pos (by omega)]; rfl

theorem ba_app (a b : List UInt8) : (⟨a.toArray⟩ : ByteArray) ++ ⟨b.toArray⟩ = ⟨(a ++ b).toArray⟩ := by
  apply ByteArray.ext; rw [ByteArray.data_append]; simp
def byteOf (x : Int) : UInt8 := UInt8.ofNat x.toNat
theorem conv1 (wr : World) (x : Int) : (convert 60 9 (.slice (some ⟨wr.heap.size, 0, none⟩) 1 1)).run Tryd.prog (wr.alloc (.cells #[.int .u8 x] 5)) = .ok (.string ⟨#[byteOf x]⟩) (wr.alloc (.cells #[.int .u8 x] 5)) := by
  have h := run_convert_bytes_arg (P := Tryd.prog) (wr.alloc (.cells #[.int .u8 x] 5)) 60 5 Tryd.underlying60 Tryd.underlying5 wr.heap.size 0 1 1 [x] rfl (fun i hi => by
    obtain rfl : i = 0 := by omega
    rw [Lib.cell_of_heap (MapKept.heap_alloc wr _).1 (0 + 0)]; rfl) 9 Tryd.underlying9
  exact h
theorem byte_eq (x : Int) (c : Nat) (h : x = (c : Int)) : byteOf x = UInt8.ofNat c := by rw [h]; rfl
theorem neg_neg64 (q : Nat) (h1 : 1 ≤ q) (h2 : q ≤ 9223372036854775808) : IntKind.u64.wrap (-IntKind.u64.wrap (-(q : Int))) = (q : Int) := by
  rw [IntKind.wrap_u64, IntKind.wrap_u64]; omega
theorem natAbs_lt {n : Int} (h : -9223372036854775808 ≤ n) (h' : n < 0) : n.natAbs ≤ 9223372036854775808 := by omega

/-- The loop of the document's Text, from a world on: u's digits in front of s. -/
theorem nDigits_step {k : Nat} (h : 9 < k) : Lib.nDigits k = Lib.nDigits (k / 10) + 1 := Lib.nDigits_big (by omega)
theorem nDigits_one {k : Nat} (h : k ≤ 9) : Lib.nDigits k = 1 := Lib.nDigits_small (by omega)

set_option maxHeartbeats 400000 in
theorem refText_any (n : Int) (w : World) (h0 : -9223372036854775808 ≤ n) (h1 : n ≤ 9223372036854775807) :
    Calls Tryd.prog 23 #[.int .i64 n] w fun e w' => e = .returned (.string ⟨(Lib.itoa n).toArray⟩) ∧ Below w.heap.size w w' := by
  by_cases hneg : n < 0
  · have hr : Hid (Lib.itoa n = 45 :: Lib.decDigits n.natAbs) := by show _ = _; unfold Lib.itoa; rw [if_pos hneg]
    obtain ⟨q, rfl⟩ : ∃ q : Nat, n = -(q : Int) := ⟨n.natAbs, by omega⟩
    have hq1 : 1 ≤ q := by omega
    have hq2 : q ≤ 9223372036854775808 := by omega
    have hn20 := Lib.nDigits_le20 q (by omega)
    have d0 : decide (-(q : Int) < 0) = true := by simp; omega
    clear hneg
    go_enter Tryd.func23, Tryd.ntmps23
    go_wp2
    go_loopw [3, 4] (fun u s wr => ∃ (k : Nat) (l : List UInt8), k ≤ q ∧ u = .int .u64 k ∧ s = .string ⟨l.toArray⟩ ∧ Hid (l.length + Lib.nDigits k = Lib.nDigits q) ∧ Hid (Lib.decDigits k ++ l = Lib.decDigits q) ∧ Below w.heap.size w wr) (fun u _ _ => (intOf u).toNat)
    case atStart =>
      exact ⟨q, [], Nat.le_refl _, congrArg (Value.int .u64) (neg_neg64 q hq1 hq2), rfl, by show _ = _; simp, List.append_nil _, Below.refl _ _⟩
    case round =>
      obtain ⟨k, l, hk, rfl, rfl, hlen, hd, hbl⟩ := hrel
      have hl20 : l.length ≤ 20 := by have := hlen.out; omega
      have hcv := conv1 wr
      by_cases h9 : 9 < k
      · go_wp2
        refine ⟨⟨k / 10, UInt8.ofNat (48 + k % 10) :: l, by omega, rfl, ?_, ?_, ?_, hbl.alloc hbl.size _⟩, by simp [intOf]; omega⟩
        · rw [byte_eq (48 + (k : Int) % 10) (48 + k % 10) (by omega)]; exact congrArg Value.string (ba_app [_] l)
        · show _ = _; have h1 := hlen.out; have h2 := nDigits_step h9; rw [List.length_cons]; omega
        · show _ = _; rw [← hd.out]; exact (digits_step k h9 l).symm
      · have h9' : k ≤ 9 := by omega
        clear h9
        go_wp2
        go_ret
        refine ⟨ret_s ?_, hbl.alloc hbl.size _⟩
        rw [hr.out, show (-(q : Int)).natAbs = q by omega, ← hd.out, digits_last k h9' l, byte_eq (48 + (k : Int)) (48 + k) (by omega)]
        exact (congrArg (⟨#[45]⟩ ++ ·) (ba_app [_] l)).trans (ba_app [45] _)
  · have hr : Hid (Lib.itoa n = Lib.decDigits n.toNat) := by show _ = _; unfold Lib.itoa; rw [if_neg hneg]
    have hp : 0 ≤ n := by omega
    have d0 : decide (n < 0) = false := by simp; omega
    clear hneg
    obtain ⟨q, rfl⟩ := Int.eq_ofNat_of_zero_le hp
    have hn20 := Lib.nDigits_le20 q (by omega)
    go_enter Tryd.func23, Tryd.ntmps23
    go_wp2
    go_loopw [3, 4] (fun u s wr => ∃ (k : Nat) (l : List UInt8), k ≤ q ∧ u = .int .u64 k ∧ s = .string ⟨l.toArray⟩ ∧ Hid (l.length + Lib.nDigits k = Lib.nDigits q) ∧ Hid (Lib.decDigits k ++ l = Lib.decDigits q) ∧ Below w.heap.size w wr) (fun u _ _ => (intOf u).toNat)
    case atStart => exact ⟨q, [], Nat.le_refl _, rfl, rfl, by show _ = _; simp, List.append_nil _, Below.refl _ _⟩
    case round =>
      obtain ⟨k, l, hk, rfl, rfl, hlen, hd, hbl⟩ := hrel
      have hl20 : l.length ≤ 20 := by have := hlen.out; omega
      have hcv := conv1 wr
      by_cases h9 : 9 < k
      · go_wp2
        refine ⟨⟨k / 10, UInt8.ofNat (48 + k % 10) :: l, by omega, rfl, ?_, ?_, ?_, hbl.alloc hbl.size _⟩, by simp [intOf]; omega⟩
        · rw [byte_eq (48 + (k : Int) % 10) (48 + k % 10) (by omega)]; exact congrArg Value.string (ba_app [_] l)
        · show _ = _; have h1 := hlen.out; have h2 := nDigits_step h9; rw [List.length_cons]; omega
        · show _ = _; rw [← hd.out]; exact (digits_step k h9 l).symm
      · have h9' : k ≤ 9 := by omega
        clear h9
        go_wp2
        go_ret
        refine ⟨ret_s ?_, hbl.alloc hbl.size _⟩
        rw [hr.out, Int.toNat_natCast, ← hd.out, digits_last k h9' l, byte_eq (48 + (k : Int)) (48 + k) (by omega)]
        exact ba_app [_] l
end Go.Proofs.YthjlhbbhdliffaaDoor
