/-
  Walks of the laws of layer 11: GframeTurned, whole.
-/
import Derived.Test.YtpgjdobgfhhbiaaGwL
namespace Go.Proofs.Ytpgjdobgfhhbiaa
open Go.RowKit
set_option maxHeartbeats 4000000 in
set_option maxRecDepth 100000 in
theorem turned_big (t h l z a b : Int) (d : ByteArray) (w : World) (bw : Below w.heap.size w (w.alloc (.cells #[.int .i64 t, .int .i64 h, .int .i64 l, .int .i64 z, .string d] 23))) (kw : Rg.Bk w.heap.size [.int .i64 t, .int .i64 h, .int .i64 l, .int .i64 z, .string d] 23 (w.alloc (.cells #[.int .i64 t, .int .i64 h, .int .i64 l, .int .i64 z, .string d] 23))) (HA : Hid (∀ W, Below w.heap.size w W → Rg.Bk w.heap.size [.int .i64 t, .int .i64 h, .int .i64 l, .int .i64 z, .string d] 23 W → Calls Try.prog 9 #[] W fun e w' => e = .returned (.bool true) ∧ Below w.heap.size w w' ∧ Rg.Bk w.heap.size [.int .i64 t, .int .i64 h, .int .i64 l, .int .i64 z, .string d] 23 w'))
    (q1 : decide ((5000 : Int) < (d.size : Int)) = true) (X : ByteArray) (E : Int)
    (HW : Hid (∀ W, Below w.heap.size w W → Rg.Bk w.heap.size [.int .i64 t, .int .i64 h, .int .i64 l, .int .i64 z, .string d] 23 W → Calls Try.prog 10 #[.agg #[.int .i64 t, .int .i64 h, .int .i64 l, .int .i64 z, .string d]] W fun e w' => e = .returned (.tuple #[.string X, .int .i64 E]) ∧ Below w.heap.size w w' ∧ Rg.Bk w.heap.size [.int .i64 t, .int .i64 h, .int .i64 l, .int .i64 z, .string d] 23 w')) :
    Calls Try.prog 8 #[.agg #[.int .i64 t, .int .i64 h, .int .i64 l, .int .i64 z, .string d], .int .i64 a, .int .i64 b] w fun e w' => e = .returned (.bool true) ∧ Below w.heap.size w w' := by
  go_enter Try.func8, Try.ntmps8
  go_wp2_with (first
    | (go_at_call 9; (first | with_reducible refine (HA.out _ (by first | assumption | exact Gf.more (by assumption) _) (by first | assumption | exact Rg.Bk.old (by assumption) _)).mono ?_); rintro e w' ⟨rfl, b', k'⟩; have c' := k'.cell; have z' := k'.lt)
    | (go_at_call 10; (first | with_reducible refine (HW.out _ (by first | assumption | exact Gf.more (by assumption) _) (by first | assumption | exact Rg.Bk.old (by assumption) _)).mono ?_); rintro e w' ⟨rfl, b', k'⟩; have c' := k'.cell; have z' := k'.lt))
  all_goals
    go_ret
    exact ⟨rfl, by first | assumption | exact Gf.more (by assumption) _⟩
set_option maxHeartbeats 4000000 in
set_option maxRecDepth 100000 in
theorem turned_no (t h l z a b : Int) (d : ByteArray) (w : World) (bw : Below w.heap.size w (w.alloc (.cells #[.int .i64 t, .int .i64 h, .int .i64 l, .int .i64 z, .string d] 23))) (kw : Rg.Bk w.heap.size [.int .i64 t, .int .i64 h, .int .i64 l, .int .i64 z, .string d] 23 (w.alloc (.cells #[.int .i64 t, .int .i64 h, .int .i64 l, .int .i64 z, .string d] 23))) (HA : Hid (∀ W, Below w.heap.size w W → Rg.Bk w.heap.size [.int .i64 t, .int .i64 h, .int .i64 l, .int .i64 z, .string d] 23 W → Calls Try.prog 9 #[] W fun e w' => e = .returned (.bool true) ∧ Below w.heap.size w w' ∧ Rg.Bk w.heap.size [.int .i64 t, .int .i64 h, .int .i64 l, .int .i64 z, .string d] 23 w'))
    (q1 : decide ((5000 : Int) < (d.size : Int)) = false)
    (HW : Hid (∀ W, Below w.heap.size w W → Rg.Bk w.heap.size [.int .i64 t, .int .i64 h, .int .i64 l, .int .i64 z, .string d] 23 W → Calls Try.prog 10 #[.agg #[.int .i64 t, .int .i64 h, .int .i64 l, .int .i64 z, .string d]] W fun e w' => e = .returned (.tuple #[.string ⟨#[]⟩, .int .i64 1]) ∧ Below w.heap.size w w' ∧ Rg.Bk w.heap.size [.int .i64 t, .int .i64 h, .int .i64 l, .int .i64 z, .string d] 23 w')) :
    Calls Try.prog 8 #[.agg #[.int .i64 t, .int .i64 h, .int .i64 l, .int .i64 z, .string d], .int .i64 a, .int .i64 b] w fun e w' => e = .returned (.bool true) ∧ Below w.heap.size w w' := by
  go_enter Try.func8, Try.ntmps8
  go_wp2_with (first
    | (go_at_call 9; (first | with_reducible refine (HA.out _ (by first | assumption | exact Gf.more (by assumption) _) (by first | assumption | exact Rg.Bk.old (by assumption) _)).mono ?_); rintro e w' ⟨rfl, b', k'⟩; have c' := k'.cell; have z' := k'.lt)
    | (go_at_call 10; (first | with_reducible refine (HW.out _ (by first | assumption | exact Gf.more (by assumption) _) (by first | assumption | exact Rg.Bk.old (by assumption) _)).mono ?_); rintro e w' ⟨rfl, b', k'⟩; have c' := k'.cell; have z' := k'.lt))
  all_goals
    go_ret
    exact ⟨rfl, by first | assumption | exact Gf.more (by assumption) _⟩
set_option maxHeartbeats 4000000 in
set_option maxRecDepth 100000 in
theorem turned_yes (t h l z a b : Int) (d : ByteArray) (w : World) (bw : Below w.heap.size w (w.alloc (.cells #[.int .i64 t, .int .i64 h, .int .i64 l, .int .i64 z, .string d] 23))) (kw : Rg.Bk w.heap.size [.int .i64 t, .int .i64 h, .int .i64 l, .int .i64 z, .string d] 23 (w.alloc (.cells #[.int .i64 t, .int .i64 h, .int .i64 l, .int .i64 z, .string d] 23))) (_HA : Hid (∀ W, Below w.heap.size w W → Rg.Bk w.heap.size [.int .i64 t, .int .i64 h, .int .i64 l, .int .i64 z, .string d] 23 W → Calls Try.prog 9 #[] W fun e w' => e = .returned (.bool true) ∧ Below w.heap.size w w' ∧ Rg.Bk w.heap.size [.int .i64 t, .int .i64 h, .int .i64 l, .int .i64 z, .string d] 23 w'))
    (q1 : decide ((5000 : Int) < (d.size : Int)) = false) (X : ByteArray) (U K V V2 Y : Nat) (C : UInt8) (u1 : IntKind.u64.wrap a = (U : Int)) (u3 : (U : Int) % 6 = (K : Int)) (u4 : K < X.size) (u5 : (K : Int) < (X.size : Int)) (_u6 : X.size ≤ 5000)
    (v1 : IntKind.u64.wrap b = (V : Int)) (v2 : (V : Int) % 255 = (V2 : Int)) (_v3 : V2 < 255) (v4 : IntKind.u8.wrap (1 + (V2 : Int)) = (Y : Int)) (v5 : bits .xor .u8 (X[K].toNat : Int) (Y : Int) = (C.toNat : Int))
    (HW : Hid (∀ W, Below w.heap.size w W → Rg.Bk w.heap.size [.int .i64 t, .int .i64 h, .int .i64 l, .int .i64 z, .string d] 23 W → Calls Try.prog 10 #[.agg #[.int .i64 t, .int .i64 h, .int .i64 l, .int .i64 z, .string d]] W fun e w' => e = .returned (.tuple #[.string X, .int .i64 0]) ∧ Below w.heap.size w w' ∧ Rg.Bk w.heap.size [.int .i64 t, .int .i64 h, .int .i64 l, .int .i64 z, .string d] 23 w'))
    (HR : Hid (∀ W, Calls Try.prog 14 #[.string ⟨(X.data.toList.set K C).toArray⟩] W fun e w' => e = .returned (.tuple #[.agg #[.int .i64 0, .int .i64 0, .int .i64 0, .int .i64 0, .string ⟨#[]⟩], .int .i64 0, .int .i64 3]) ∧ Below W.heap.size W w')) (HB : Hid (∀ W, Calls Try.prog 9 #[] W fun e w' => e = .returned (.bool true) ∧ Below W.heap.size W w')) :
    Calls Try.prog 8 #[.agg #[.int .i64 t, .int .i64 h, .int .i64 l, .int .i64 z, .string d], .int .i64 a, .int .i64 b] w fun e w' => e = .returned (.bool true) ∧ Below w.heap.size w w' := by
  go_enter Try.func8, Try.ntmps8
  go_upto_region 5 with (go_at_call 10; (first | with_reducible refine (HW.out _ (by first | assumption | exact Gf.more (by assumption) _) (by first | assumption | exact Rg.Bk.old (by assumption) _)).mono ?_); rintro e w' ⟨rfl, b', k'⟩; have c' := k'.cell; have z' := k'.lt)
  have hcv := run_bytes_of_string (P := Try.prog) w' 9 40 5 X Try.underlying9 Try.underlying40 Try.underlying5
  have hrow := bytesRow_eq X (grownCap w' X.size 0 5)
  rw [hrow, rowOf_size, Array.length_toList] at hcv
  generalize grownCap w' X.size 0 5 = cap at *
  generalize cap - X.size = zz at *
  clear hrow c' z' k'
  go_upto_region 6 with fail
  clear hcv
  have hr0 : (w'.alloc (.cells (rowOf X.data.toList zz) 5 (X.size + zz, X.size + zz + 1))).drew.heap[w'.heap.size]? = some (.cells (rowOf X.data.toList zz) 5 (X.size + zz, X.size + zz + 1)) := (MapKept.heap_alloc w' _).1
  have hbl : Below w.heap.size w (w'.alloc (.cells (rowOf X.data.toList zz) 5 (X.size + zz, X.size + zz + 1))).drew := (b'.alloc b'.size _).drew
  have hbz : w.heap.size ≤ w'.heap.size := b'.size
  generalize (w'.alloc (.cells (rowOf X.data.toList zz) 5 (X.size + zz, X.size + zz + 1))).drew = W at *
  generalize w'.heap.size = P at *
  have hin : K < X.data.toList.length := by rw [Gf.len_eq]; exact u4
  have hXK : X.data.toList[K] = X[K] := rfl
  have hcell : W.cell? ⟨P, K, none⟩ = some (.int .u8 (X[K].toNat : Int)) := by rw [Lib.cell_of_heap hr0, rowOf_get _ zz K hin, hXK]
  have hfz : W.frozen? ⟨P, K, none⟩ = false := frozen_row hr0 _ (by show K < X.size + zz; omega)
  have hr1 : Hid ((W.setCell ⟨P, K, none⟩ (.int .u8 (C.toNat : Int))).heap[P]? = some (.cells (rowOf (X.data.toList.set K C) zz) 5 (X.size + zz, X.size + zz + 1))) := (Lib.heap_setCell_same hr0 _).trans (by rw [rowOf_set _ zz K hin C])
  have hb1 : Below w.heap.size w (W.setCell ⟨P, K, none⟩ (.int .u8 (C.toNat : Int))) := hbl.setCell (p := ⟨P, K, none⟩) hbz _
  clear hr0 hbl hXK
  go_upto_region 7 with fail
  have hcv := conv_row (cap := cap) hr1.out
  rw [List.length_set, Gf.len_eq] at hcv
  clear hcell hfz v5
  generalize World.setCell _ _ _ = W2 at *
  clear hr1
  generalize (⟨(X.data.toList.set K C).toArray⟩ : ByteArray) = Z at *
  go_wp2_with (first
    | (go_at_call 9; refine (HB.out _).mono ?_; rintro e w9 ⟨rfl, b9⟩)
    | (go_at_call 14; refine (HR.out _).mono ?_; rintro e w8 ⟨rfl, b8⟩))
  go_ret
  exact ⟨rfl, (Gf.more (hb1.trans (b8.mono hb1.size)) _).trans (b9.mono (Gf.more (hb1.trans (b8.mono hb1.size)) _).size)⟩
theorem turned_walk (t h l z : Int) (d : ByteArray) (a b : Int) (w : World) :
    Calls Try.prog 8 #[.agg #[.int .i64 t, .int .i64 h, .int .i64 l, .int .i64 z, .string d], .int .i64 a, .int .i64 b] w fun e w' => e = .returned (.bool true) ∧ Below w.heap.size w w' := by
  have bw := Gf.below1 w (.cells #[.int .i64 t, .int .i64 h, .int .i64 l, .int .i64 z, .string d] 23)
  have kw : Rg.Bk w.heap.size [.int .i64 t, .int .i64 h, .int .i64 l, .int .i64 z, .string d] 23 (w.alloc (.cells #[.int .i64 t, .int .i64 h, .int .i64 l, .int .i64 z, .string d] 23)) := Rg.Bk.new rfl
  have HA := keepF (C := [.int .i64 t, .int .i64 h, .int .i64 l, .int .i64 z, .string d]) (ty := 23) w gawake_any
  by_cases hk : Gf.ok ⟨t, h, l, z, d.data.toList⟩
  · have HW := keepF (C := [.int .i64 t, .int .i64 h, .int .i64 l, .int .i64 z, .string d]) (ty := 23) w (write_yes t h l z d hk)
    by_cases q1 : 5000 < d.size
    · exact turned_big t h l z a b d w bw kw HA (by simp; omega) _ 0 HW
    have q1' : decide ((5000 : Int) < (d.size : Int)) = false := by simp; omega
    obtain ⟨hX, hX6⟩ := Gf.text_size hk
    obtain ⟨U, hU⟩ : ∃ U : Nat, IntKind.u64.wrap a = (U : Int) := ⟨(IntKind.u64.wrap a).toNat, by rw [IntKind.wrap_u64]; omega⟩
    obtain ⟨V, hV⟩ : ∃ V : Nat, IntKind.u64.wrap b = (V : Int) := ⟨(IntKind.u64.wrap b).toNat, by rw [IntKind.wrap_u64]; omega⟩
    have hK : U % 6 < 6 := Nat.mod_lt _ (by decide)
    have hV2 : V % 255 < 255 := Nat.mod_lt _ (by decide)
    have hin : U % 6 < (⟨(Gf.text ⟨t, h, l, z, d.data.toList⟩).toArray⟩ : ByteArray).size := by omega
    have hgd := Gf.getD_at (⟨(Gf.text ⟨t, h, l, z, d.data.toList⟩).toArray⟩ : ByteArray) (U % 6) hin
    have hnn : (UInt8.ofNat (1 + V % 255)).toNat = 1 + V % 255 := Gf.ofNat_toNat (by omega)
    have htu := Gf.text_turned hk (UInt8.ofNat (1 + V % 255)) (by rw [hnn]; omega) (U % 6) hK
    have hcx : bits .xor .u8 (((⟨(Gf.text ⟨t, h, l, z, d.data.toList⟩).toArray⟩ : ByteArray)[U % 6]).toNat : Int) ((1 + V % 255 : Nat) : Int) = (((⟨(Gf.text ⟨t, h, l, z, d.data.toList⟩).toArray⟩ : ByteArray)[U % 6] ^^^ UInt8.ofNat (1 + V % 255)).toNat : Int) := by
      rw [Bit.xor_u8 _ _ (UInt8.toNat_lt _) (by omega), Gf.toNat_xor, hnn]
    have HR : ∀ W, Calls Try.prog 14 #[.string ⟨((⟨(Gf.text ⟨t, h, l, z, d.data.toList⟩).toArray⟩ : ByteArray).data.toList.set (U % 6) ((⟨(Gf.text ⟨t, h, l, z, d.data.toList⟩).toArray⟩ : ByteArray)[U % 6] ^^^ UInt8.ofNat (1 + V % 255))).toArray⟩] W fun e w' => e = .returned (.tuple #[.agg #[.int .i64 0, .int .i64 0, .int .i64 0, .int .i64 0, .string ⟨#[]⟩], .int .i64 0, .int .i64 3]) ∧ Below W.heap.size W w' := fun W => by
      have hr := gread_any ⟨((⟨(Gf.text ⟨t, h, l, z, d.data.toList⟩).toArray⟩ : ByteArray).data.toList.set (U % 6) ((⟨(Gf.text ⟨t, h, l, z, d.data.toList⟩).toArray⟩ : ByteArray)[U % 6] ^^^ UInt8.ofNat (1 + V % 255))).toArray⟩ (by rw [Gf.size_of, List.length_set, Gf.len_eq]; unfold maxLen; omega) W
      rw [← hgd] at hr ⊢
      have e : Gf.read (⟨((⟨(Gf.text ⟨t, h, l, z, d.data.toList⟩).toArray⟩ : ByteArray).data.toList.set (U % 6) ((⟨(Gf.text ⟨t, h, l, z, d.data.toList⟩).toArray⟩ : ByteArray).data.toList.getD (U % 6) 0 ^^^ UInt8.ofNat (1 + V % 255))).toArray⟩ : ByteArray).data.toList = .error 3 := htu
      rw [e] at hr
      exact hr
    generalize (⟨(Gf.text ⟨t, h, l, z, d.data.toList⟩).toArray⟩ : ByteArray) = X at *
    exact turned_yes t h l z a b d w bw kw HA q1' X U (U % 6) V (V % 255) (1 + V % 255) (X[U % 6] ^^^ UInt8.ofNat (1 + V % 255)) hU (by omega) hin (by omega) (by omega) hV (by omega) hV2 (by rw [IntKind.wrap_u8]; omega) hcx HW HR gawake_any
  · have HW := keepF (C := [.int .i64 t, .int .i64 h, .int .i64 l, .int .i64 z, .string d]) (ty := 23) w (write_no t h l z d hk)
    by_cases q1 : 5000 < d.size
    · exact turned_big t h l z a b d w bw kw HA (by simp; omega) _ 1 HW
    · exact turned_no t h l z a b d w bw kw HA (by simp; omega) HW
end Go.Proofs.Ytpgjdobgfhhbiaa
