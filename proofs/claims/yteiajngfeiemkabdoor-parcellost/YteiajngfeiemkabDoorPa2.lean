/-
  Walks of layer 13: Write, the program's and the document's.
-/
import Derived.Test.YteiajngfeiemkabDoorPa1
import Derived.Test.YteiajngfeiemkabDoorFix
import Derived.Test.YteiajngfeiemkabDoorPaU
namespace Go.Proofs.YteiajngfeiemkabDoor
open Go.RowKit
theorem Pa.fixed4 (n : Nat) (h : n ≤ 4096) : Oct.fixed (n : Int) 4 = (Pa.d4 n, 0) := by
  have := Oct.fixed_ok (n := n) (width := 4) (by omega) (by omega) (by omega)
  rw [show ((4 : Nat) : Int) = 4 from rfl] at this
  rw [this]
  unfold Oct.rights Oct.digF Pa.d4
  simp [List.range_succ]
set_option maxHeartbeats 1000000 in
theorem pwrite_no (t : Int) (d : ByteArray) (w : World) (HK : Hid (∀ W, Calls Tryd.prog 16 #[.int .i64 t] W fun e w' => e = .returned (.bool false) ∧ w' = W)) :
    Calls Tryd.prog 8 #[.agg #[.int .i64 t, .string d]] w fun e w' => e = .returned (.tuple #[.string ⟨#[]⟩, .int .i64 1]) ∧ Below w.heap.size w w' := by
  have bw := If.below1 w (.cells #[.int .i64 t, .string d] 34)
  go_enter Tryd.func8, Tryd.ntmps8
  go_wp2_with (go_at_call 16; refine (HK.out _).mono ?_; rintro e w2 ⟨rfl, rfl⟩)
  go_ret2
  exact ⟨rfl, bw⟩
set_option maxHeartbeats 1000000 in
theorem pwrite_long (t : Int) (d : ByteArray) (w : World) (hl : decide ((4096 : Int) < (d.size : Int)) = true) (HK : Hid (∀ W, Calls Tryd.prog 16 #[.int .i64 t] W fun e w' => e = .returned (.bool true) ∧ w' = W)) :
    Calls Tryd.prog 8 #[.agg #[.int .i64 t, .string d]] w fun e w' => e = .returned (.tuple #[.string ⟨#[]⟩, .int .i64 5]) ∧ Below w.heap.size w w' := by
  have bw := If.below1 w (.cells #[.int .i64 t, .string d] 34)
  go_enter Tryd.func8, Tryd.ntmps8
  go_wp2_with (go_at_call 16; refine (HK.out _).mono ?_; rintro e w2 ⟨rfl, rfl⟩)
  go_ret2
  exact ⟨rfl, bw⟩
set_option maxHeartbeats 2000000 in
theorem pwrite_yes (t : Nat) (ht : t < 256) (d : ByteArray) (w : World) (hl : decide ((4096 : Int) < (d.size : Int)) = false) (X : ByteArray) (hX : X.size ≤ 4) (hd : d.size ≤ 4096) (HK : Hid (∀ W, Calls Tryd.prog 16 #[.int .i64 (t : Int)] W fun e w' => e = .returned (.bool true) ∧ w' = W))
    (HF : Hid (∀ W, Below w.heap.size w W → Rg.Bk w.heap.size [.int .i64 (t : Int), .string d] 34 W → Calls Tryd.prog 17 #[.int .i64 d.size, .int .i64 4] W fun e w' => e = .returned (.tuple #[.string X, .int .i64 0]) ∧ Below w.heap.size w w' ∧ Rg.Bk w.heap.size [.int .i64 (t : Int), .string d] 34 w')) :
    Calls Tryd.prog 8 #[.agg #[.int .i64 (t : Int), .string d]] w fun e w' => e = .returned (.tuple #[.string (⟨#[byteOf (t : Int)]⟩ ++ X ++ d), .int .i64 0]) ∧ Below w.heap.size w w' := by
  have bw := If.below1 w (.cells #[.int .i64 (t : Int), .string d] 34)
  have k0 : Rg.Bk w.heap.size [.int .i64 (t : Int), .string d] 34 (w.alloc (.cells #[.int .i64 (t : Int), .string d] 34)) := Rg.Bk.new rfl
  have hs1 : ¬ 9223372036854775807 < 1 + X.size := by omega
  have hs2 : ¬ 9223372036854775807 < 1 + X.size + d.size := by omega
  have hcv := fun wr => conv1 wr (t : Int)
  have hwr : IntKind.u8.wrap (t : Int) = (t : Int) := by rw [IntKind.wrap_u8]; omega
  go_enter Tryd.func8, Tryd.ntmps8
  go_upto_region 5 with (go_at_call 16; refine (HK.out _).mono ?_; rintro e w2 ⟨rfl, rfl⟩)
  have c0 := k0.cell 0; have c1 := k0.cell 1; simp only [List.getElem?_cons_zero, List.getElem?_cons_succ] at c0 c1
  generalize w.alloc (.cells #[.int .i64 (t : Int), .string d] 34) = W at *
  generalize hB : w.heap.size = B at *
  replace hB := Rg.hid hB
  go_upto_region 6 with (go_at_call 17; refine (HF.out _ ?_ ?_).mono ?_; exact bw; exact k0; rintro e w2 ⟨rfl, b2, k2⟩)
  have e0 := k2.cell 0; have e1 := k2.cell 1; simp only [List.getElem?_cons_zero, List.getElem?_cons_succ] at e0 e1
  have f1 := (k2.old (.cells #[.int .u8 (t : Int)] 5)).cell 1; simp only [List.getElem?_cons_zero, List.getElem?_cons_succ] at f1
  have b3 : Below B w (w2.alloc (.cells #[.int .u8 (t : Int)] 5)) := b2.alloc (by rw [← hB.out]; rw [← hB.out] at b2; exact b2.size) _
  go_wp2
  go_ret2
  exact ⟨rfl, by rw [hB.out]; exact b3⟩
theorem pwrite_any (t : Int) (d : ByteArray) (w : World) :
    Calls Tryd.prog 8 #[.agg #[.int .i64 t, .string d]] w fun e w' => e = .returned (.tuple #[.string ⟨(Pa.wr ⟨t, d.data.toList⟩).1.toArray⟩, .int .i64 ((Pa.wr ⟨t, d.data.toList⟩).2 : Nat)]) ∧ Below w.heap.size w w' := by
  have HK := fun W => isTag_any t W
  have hle := If.len_eq d
  cases hk : Pa.tag t with
  | false =>
    rw [hk] at HK
    rw [show Pa.wr ⟨t, d.data.toList⟩ = ([], 1) by unfold Pa.wr; rw [if_neg (by rw [hk]; simp)]]
    exact pwrite_no t d w HK
  | true =>
    rw [hk] at HK
    by_cases hl : 4096 < d.size
    · rw [show Pa.wr ⟨t, d.data.toList⟩ = ([], 5) by unfold Pa.wr; rw [if_pos hk, if_pos (by dsimp only; omega)]]
      exact pwrite_long t d w (by simp; omega) HK
    · rw [show Pa.wr ⟨t, d.data.toList⟩ = (Pa.text ⟨t, d.data.toList⟩, 0) by unfold Pa.wr; rw [if_pos hk, if_neg (by dsimp only; omega)]]
      have ht := Pa.tag_cases hk
      obtain ⟨t, rfl⟩ : ∃ m : Nat, t = (m : Int) := ⟨t.toNat, by omega⟩
      have HF := fun W => fixed_any (d.size : Int) 4 W (by omega) (by omega)
      rw [Pa.fixed4 d.size (by omega)] at HF
      have h := pwrite_yes t (by omega) d w (by simp; omega) ⟨(Pa.d4 d.size).toArray⟩ (Nat.le_refl 4) (by omega) HK (keepF w HF)
      have e : (⟨#[byteOf (t : Int)]⟩ ++ ⟨(Pa.d4 d.size).toArray⟩ ++ d : ByteArray) = ⟨(Pa.text ⟨(t : Int), d.data.toList⟩).toArray⟩ := by
        apply ByteArray.ext
        unfold Pa.text Pa.head
        dsimp only
        rw [hle, Int.toNat_natCast]
        simp [byteOf]
      rw [e] at h
      exact h
end Go.Proofs.YteiajngfeiemkabDoor
