/-
  Walks of layer 2's statements: CheckJoins, CheckXors.
-/
import Derived.Test.YtoaanfokbchalaaLawK2
namespace Go.Proofs.Ytoaanfokbchalaa
open Go.RowKit
theorem ba_toList (a b : ByteArray) : (a ++ b).data.toList = a.data.toList ++ b.data.toList := by rw [ByteArray.data_append]; simp
theorem fit {n : Nat} (h : n ≤ 20000) : n ≤ maxLen := Nat.le_trans h (by decide)

set_option maxHeartbeats 1000000 in
theorem joins_walk (a : ByteArray) (_ha : a.size ≤ maxLen) (b : ByteArray) (_hb : b.size ≤ maxLen) (c : ByteArray) (_hc : c.size ≤ maxLen) (w : World) :
    Calls Try.prog 6 #[.string a, .string b, .string c] w fun e w' => e = .returned (.bool true) ∧ Below w.heap.size w w' := by
  have HL := long_many [a, b, c] (by simp) w
  by_cases hlong : a.size ≤ 5000 ∧ b.size ≤ 5000 ∧ c.size ≤ 5000
  · obtain ⟨ha, hb, hc⟩ := hlong
    have HL1 : Hid (Calls Try.prog 9 #[.slice (some ⟨w.heap.size, 0, none⟩) 3 3] (w.alloc (.cells #[.string a, .string b, .string c] 9)) fun e w' => e = .returned (.bool false) ∧ Below w.heap.size w w') := HL false (by simp; omega)
    have sab : (a ++ b).size ≤ maxLen := fit (by rw [ByteArray.size_append]; omega)
    have sabc : (a ++ b ++ c).size ≤ maxLen := fit (by rw [ByteArray.size_append, ByteArray.size_append]; omega)
    have H0 : Hid (∀ w : World, Calls Try.prog 15 #[.string (a ++ b ++ c)] w fun e w' => e = .returned (.int .i64 (Chk.more 0 (a.data.toList ++ b.data.toList ++ c.data.toList))) ∧ w' = w) := fun w => by
      have h := crc_any (a ++ b ++ c) w sabc
      rw [ba_toList, ba_toList] at h; exact h
    have H1 : Hid (∀ w : World, Calls Try.prog 15 #[.string a] w fun e w' => e = .returned (.int .i64 (Chk.more 0 a.data.toList)) ∧ w' = w) := fun w => crc_any a w (fit (by omega))
    have H2 : Hid (∀ w : World, Calls Try.prog 21 #[.int .i64 (Chk.more 0 a.data.toList), .string b] w fun e w' => e = .returned (.int .i64 (Chk.more 0 (a.data.toList ++ b.data.toList))) ∧ w' = w) := fun w => by
      have h := more_any (Chk.more 0 a.data.toList) b w (fit (by omega))
      rw [Chk.more_more] at h; exact h
    have H3 : Hid (∀ w : World, Calls Try.prog 21 #[.int .i64 (Chk.more 0 (a.data.toList ++ b.data.toList)), .string c] w fun e w' => e = .returned (.int .i64 (Chk.more 0 (a.data.toList ++ b.data.toList ++ c.data.toList))) ∧ w' = w) := fun w => by
      have h := more_any (Chk.more 0 (a.data.toList ++ b.data.toList)) c w (fit (by omega))
      rw [Chk.more_more] at h; exact h
    have H4 : Hid (∀ w : World, Calls Try.prog 15 #[.string (a ++ b)] w fun e w' => e = .returned (.int .i64 (Chk.more 0 (a.data.toList ++ b.data.toList))) ∧ w' = w) := fun w => by
      have h := crc_any (a ++ b) w sab
      rw [ba_toList] at h; exact h
    have H5 : Hid (∀ w : World, Calls Try.prog 21 #[.int .i64 (Chk.more 0 (a.data.toList ++ b.data.toList ++ c.data.toList)), .string ⟨#[]⟩] w fun e w' => e = .returned (.int .i64 (Chk.more 0 (a.data.toList ++ b.data.toList ++ c.data.toList))) ∧ w' = w) := fun w => by
      have h := more_any (Chk.more 0 (a.data.toList ++ b.data.toList ++ c.data.toList)) ⟨#[]⟩ w (by decide)
      have e : Chk.more (Chk.more 0 (a.data.toList ++ b.data.toList ++ c.data.toList) : Int) (⟨#[]⟩ : ByteArray).data.toList = Chk.more 0 (a.data.toList ++ b.data.toList ++ c.data.toList) := Chk.more_none (Chk.more_lt _ _)
      rw [e] at h; exact h
    generalize Chk.more 0 (a.data.toList ++ b.data.toList ++ c.data.toList) = n3 at *
    generalize Chk.more 0 (a.data.toList ++ b.data.toList) = n2 at *
    generalize Chk.more 0 a.data.toList = n1 at *
    clear HL sab sabc
    go_enter Try.func6, Try.ntmps6
    go_wp2_with (go_at_call 9; refine HL1.out.mono ?_)
    rintro e w1 ⟨rfl, b1⟩
    go_wp2_with (go_at_call 15; refine (H0.out _).mono ?_)
    rintro e w2 ⟨rfl, rfl⟩
    go_wp2_with (go_at_call 15; refine (H1.out _).mono ?_)
    rintro e w3 ⟨rfl, rfl⟩
    go_wp2_with (go_at_call 21; refine (H2.out _).mono ?_)
    rintro e w4 ⟨rfl, rfl⟩
    go_wp2_with (go_at_call 21; refine (H3.out _).mono ?_)
    rintro e w5 ⟨rfl, rfl⟩
    go_wp2_with (go_at_call 15; refine (H4.out _).mono ?_)
    rintro e w6 ⟨rfl, rfl⟩
    go_wp2_with (go_at_call 21; refine (H3.out _).mono ?_)
    rintro e w7 ⟨rfl, rfl⟩
    go_wp2_with (go_at_call 21; refine (H5.out _).mono ?_)
    rintro e w8 ⟨rfl, rfl⟩
    go_wp2_with (go_at_call 10; refine (awake_any _).mono ?_; rintro e w9 ⟨rfl, rfl⟩)
    go_ret
    exact ⟨rfl, b1⟩
  · have HL1 : Hid (Calls Try.prog 9 #[.slice (some ⟨w.heap.size, 0, none⟩) 3 3] (w.alloc (.cells #[.string a, .string b, .string c] 9)) fun e w' => e = .returned (.bool true) ∧ Below w.heap.size w w') := HL true (by simp; omega)
    clear HL hlong
    go_enter Try.func6, Try.ntmps6
    go_wp2_with (go_at_call 9; refine HL1.out.mono ?_)
    rintro e w1 ⟨rfl, b1⟩
    go_wp2_with (go_at_call 10; refine (awake_any _).mono ?_; rintro e w9 ⟨rfl, rfl⟩)
    go_ret
    exact ⟨rfl, b1⟩

def byteOf (x : Int) : UInt8 := UInt8.ofNat x.toNat
theorem conv1 (wr : World) (x : Int) : (convert 33 9 (.slice (some ⟨wr.heap.size, 0, none⟩) 1 1)).run Try.prog (wr.alloc (.cells #[.int .u8 x] 5)) = .ok (.string ⟨#[byteOf x]⟩) (wr.alloc (.cells #[.int .u8 x] 5)) := by
  have h := run_convert_bytes_arg (P := Try.prog) (wr.alloc (.cells #[.int .u8 x] 5)) 33 5 Try.underlying33 Try.underlying5 wr.heap.size 0 1 1 [x] rfl (fun i hi => by
    obtain rfl : i = 0 := by omega
    rw [Lib.cell_of_heap (MapKept.heap_alloc wr _).1 (0 + 0)]; rfl) 9 Try.underlying9
  exact h

set_option maxRecDepth 100000 in
set_option maxHeartbeats 1000000 in
theorem xors_walk (a : ByteArray) (_ha : a.size ≤ maxLen) (b : ByteArray) (_hb : b.size ≤ maxLen) (w : World) :
    Calls Try.prog 8 #[.string a, .string b] w fun e w' => e = .returned (.bool true) ∧ Below w.heap.size w w' := by
  have HL := long_many [a, b] (by simp) w
  by_cases hlong : a.size ≤ 5000 ∧ b.size ≤ 5000
  · obtain ⟨ha, hb⟩ := hlong
    have HL1 : Hid (Calls Try.prog 9 #[.slice (some ⟨w.heap.size, 0, none⟩) 2 2] (w.alloc (.cells #[.string a, .string b] 9)) fun e w' => e = .returned (.bool false) ∧ Below w.heap.size w w') := HL false (by simp; omega)
    have sab : (a ++ b).size ≤ maxLen := fit (by rw [ByteArray.size_append]; omega)
    have sba : (b ++ a).size ≤ maxLen := fit (by rw [ByteArray.size_append]; omega)
    have hxl := Chk.xor_lt a.data.toList
    have hyl := Chk.xor_lt b.data.toList
    have H0 : Hid (∀ w : World, Calls Try.prog 13 #[.string a] w fun e w' => e = .returned (.int .i64 (Chk.xor a.data.toList)) ∧ w' = w) := fun w => xor_any a w (fit (by omega))
    have H1 : Hid (∀ w : World, Calls Try.prog 13 #[.string (a ++ b)] w fun e w' => e = .returned (.int .i64 ((Chk.xor a.data.toList ^^^ Chk.xor b.data.toList : Nat) : Int)) ∧ w' = w) := fun w => by
      have h := xor_any (a ++ b) w sab
      rw [ba_toList, Chk.xor_append] at h; exact h
    have H2 : Hid (∀ w : World, Calls Try.prog 13 #[.string b] w fun e w' => e = .returned (.int .i64 (Chk.xor b.data.toList)) ∧ w' = w) := fun w => xor_any b w (fit (by omega))
    have H3 : Hid (∀ w : World, Calls Try.prog 13 #[.string (b ++ a)] w fun e w' => e = .returned (.int .i64 ((Chk.xor a.data.toList ^^^ Chk.xor b.data.toList : Nat) : Int)) ∧ w' = w) := fun w => by
      have h := xor_any (b ++ a) w sba
      rw [ba_toList, Chk.xor_append, Nat.xor_comm] at h; exact h
    have hsz : (a ++ ⟨#[byteOf (Chk.xor a.data.toList : Int)]⟩).size ≤ maxLen := fit (by rw [ByteArray.size_append]; show a.size + 1 ≤ _; omega)
    have H4 : Hid (∀ w : World, Calls Try.prog 13 #[.string (a ++ ⟨#[byteOf (Chk.xor a.data.toList : Int)]⟩)] w fun e w' => e = .returned (.int .i64 0) ∧ w' = w) := fun w => by
      have h := xor_any (a ++ ⟨#[byteOf (Chk.xor a.data.toList : Int)]⟩) w hsz
      have e : Chk.xor (⟨#[byteOf (Chk.xor a.data.toList : Int)]⟩ : ByteArray).data.toList = Chk.xor a.data.toList := by
        show Chk.xor [byteOf (Chk.xor a.data.toList : Int)] = _
        rw [Chk.xor_one]; unfold byteOf; rw [Int.toNat_natCast, UInt8.toNat_ofNat']; exact Nat.mod_eq_of_lt hxl
      rw [ba_toList, Chk.xor_append, e, Nat.xor_self] at h; exact h
    clear hsz sab sba HL
    generalize Chk.xor a.data.toList = x at *
    generalize Chk.xor b.data.toList = y at *
    have f1 := Bit.xor_i64 x y (by omega) (by omega)
    have f2 : IntKind.u8.wrap (x : Int) = (x : Int) := by rw [IntKind.wrap_u8]; omega
    generalize x ^^^ y = z at *
    go_enter Try.func8, Try.ntmps8
    go_wp2_with (go_at_call 9; refine HL1.out.mono ?_)
    rintro e w1 ⟨rfl, b1⟩
    have hcv := conv1 w1 (x : Int)
    go_wp2_with (go_at_call 13; refine (H0.out _).mono ?_)
    rintro e w2 ⟨rfl, rfl⟩
    go_wp2_with (go_at_call 13; refine (H1.out _).mono ?_)
    rintro e w3 ⟨rfl, rfl⟩
    go_wp2_with (go_at_call 13; refine (H2.out _).mono ?_)
    rintro e w3 ⟨rfl, rfl⟩
    go_wp2_with (go_at_call 13; refine (H3.out _).mono ?_)
    rintro e w3 ⟨rfl, rfl⟩
    go_wp2_with (go_at_call 13; refine (H1.out _).mono ?_)
    rintro e w3 ⟨rfl, rfl⟩
    go_wp2_with (go_at_call 13; refine (H4.out _).mono ?_)
    rintro e w3 ⟨rfl, rfl⟩
    go_wp2_with (go_at_call 10; refine (awake_any _).mono ?_; rintro e w9 ⟨rfl, rfl⟩)
    go_ret
    exact ⟨rfl, b1.alloc b1.size _⟩
  · have HL1 : Hid (Calls Try.prog 9 #[.slice (some ⟨w.heap.size, 0, none⟩) 2 2] (w.alloc (.cells #[.string a, .string b] 9)) fun e w' => e = .returned (.bool true) ∧ Below w.heap.size w w') := HL true (by simp; omega)
    clear HL hlong
    go_enter Try.func8, Try.ntmps8
    go_wp2_with (go_at_call 9; refine HL1.out.mono ?_)
    rintro e w1 ⟨rfl, b1⟩
    go_wp2_with (go_at_call 10; refine (awake_any _).mono ?_; rintro e w9 ⟨rfl, rfl⟩)
    go_ret
    exact ⟨rfl, b1⟩
end Go.Proofs.Ytoaanfokbchalaa
