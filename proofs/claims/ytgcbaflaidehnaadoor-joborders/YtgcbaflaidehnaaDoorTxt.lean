/-
  Walks of layer 1: octet.Text (over the shelf's strconv.Itoa), the document's Text.
-/
import Derived.Test.YtgcbaflaidehnaaDoorRet
import Derived.Test.YtgcbaflaidehnaaDoorNum
import Derived.Lib.Builder
import Derived.Test.YtgcbaflaidehnaaDoorShelf
import Derived.Lib.ItoaMem
import Derived.Lib.ItoaLen
import Derived.Laws.BytesArg
namespace Go.Proofs.YtgcbaflaidehnaaDoor
open Go.RowKit

theorem below_grow (w : World) (k : Nat) (os : Array Obj) : Below w.heap.size w (Go.Sort.grow (w.drewN k) os) :=
  ⟨rfl, rfl, rfl, by simp [Go.Sort.grow], fun i hi => by
    simp only [Go.Sort.grow]
    have e : (w.drewN k).heap = w.heap := rfl
    rw [e, Array.getElem?_append_left hi]⟩
theorem tab_below {w w' : World} {name : String} {k : IntKind} {zs : List Int} (h : Lib.TabIs Tryd.prog w name k zs) (hb : Below w.heap.size w w') : Lib.TabIs Tryd.prog w' name k zs := by
  unfold Lib.TabIs World.var? at *
  cases hg : Tryd.prog.globalNamed name with
  | none => simp [hg] at h
  | some g =>
    simp only [hg, Option.bind_some] at h ⊢
    have hlt : g < w.heap.size := by
      rcases Nat.lt_or_ge g w.heap.size with h' | h'
      · exact h'
      · rw [Array.getElem?_eq_none h'] at h; simp at h
    rw [hb.block g hlt]
    exact h

set_option maxHeartbeats 400000 in
theorem text_any (n : Int) (w : World) (h0 : -9223372036854775808 ≤ n) (h1 : n ≤ 9223372036854775807) (htab : Lib.TabIs Tryd.prog w "internal/strconv.uint64pow10" .u64 Lib.pow10Tab) :
    Calls Tryd.prog 18 #[.int .i64 n] w fun e w' => e = .returned (.string ⟨(Lib.itoa n).toArray⟩) ∧ Below w.heap.size w w' := by
  have HA := Tryd.strconv_Itoa n h0 h1 w htab
  go_enter Tryd.func18, Tryd.ntmps18
  go_wp2_with (go_at_call 27; refine HA.mono ?_; rintro e w' ⟨rfl, k, os, rfl⟩)
  go_ret
  exact ⟨rfl, below_grow w k os⟩

theorem digits_step (u : Nat) (h : 9 < u) (l : List UInt8) : Lib.decDigits u ++ l = Lib.decDigits (u / 10) ++ (UInt8.ofNat (48 + u % 10) :: l) := by
  rw [Lib.decDigits, dif_neg (by omega), List.append_assoc]; rfl
theorem digits_last (u : Nat) (h : u ≤ 9) (l : List UInt8) : Lib.decDigits u ++ l = UInt8.ofNat (48 + u) :: l := by
  rw [Lib.decDigits, dif_pos (by omega)]; rfl

theorem ba_app (a b : List UInt8) : (⟨a.toArray⟩ : ByteArray) ++ ⟨b.toArray⟩ = ⟨(a ++ b).toArray⟩ := by
  apply ByteArray.ext; rw [ByteArray.data_append]; simp
def byteOf (x : Int) : UInt8 := UInt8.ofNat x.toNat
theorem conv1 (wr : World) (x : Int) : (convert 52 9 (.slice (some ⟨wr.heap.size, 0, none⟩) 1 1)).run Tryd.prog (wr.alloc (.cells #[.int .u8 x] 5)) = .ok (.string ⟨#[byteOf x]⟩) (wr.alloc (.cells #[.int .u8 x] 5)) := by
  have h := run_convert_bytes_arg (P := Tryd.prog) (wr.alloc (.cells #[.int .u8 x] 5)) 52 5 Tryd.underlying52 Tryd.underlying5 wr.heap.size 0 1 1 [x] rfl (fun i hi => by
    obtain rfl : i = 0 := by omega
    rw [Lib.cell_of_heap (MapKept.heap_alloc wr _).1 (0 + 0)]; rfl) 9 Tryd.underlying9
  exact h
theorem byte_eq (x : Int) (c : Nat) (h : x = (c : Int)) : byteOf x = UInt8.ofNat c := by rw [h]; rfl
theorem neg_neg64 (q : Nat) (h1 : 1 ≤ q) (h2 : q ≤ 9223372036854775808) : IntKind.u64.wrap (-IntKind.u64.wrap (-(q : Int))) = (q : Int) := by
  rw [IntKind.wrap_u64, IntKind.wrap_u64]; omega
theorem natAbs_lt {n : Int} (h : -9223372036854775808 ≤ n) (h' : n < 0) : n.natAbs ≤ 9223372036854775808 := by omega

/-- The loop of the document's Text, from a world on: u's digits in front of s. -/
theorem nDigits_step {k : Nat} (h : 9 < k) : Lib.nDigits k = Lib.nDigits (k / 10) + 1 := Lib.nDigits_big (by omega)
theorem nDigits_one {k : Nat} (h : k ≤ 9) : Lib.nDigits k = 1 := Lib.nDigits_small (by omega)

end Go.Proofs.YtgcbaflaidehnaaDoor
