/-
  Walks of the laws of layer 12: the document's Write, whole; IframeWrites.
-/
import Derived.Test.YtomldoijcclhhaaGreatSkBB
import Derived.Test.YtomldoijcclhhaaGreatSkAV
import Derived.Test.YtomldoijcclhhaaGreatSkAY
import Derived.Test.YtomldoijcclhhaaGreatSkAW
namespace Go.Proofs.YtomldoijcclhhaaGreat
open Go.RowKit
namespace If
theorem or_bit16 {k : Nat} (hk : k < 8) : bits .or .i64 ((k : Int) * 32) 16 = ((k * 32 + 16 : Nat) : Int) := by
  have e := Bit.or_i64 (k * 32) 16 (by omega) (by omega)
  rw [show k * 32 ||| 16 = k * 32 + 16 from or_add k 5 16 (by omega)] at e
  rw [← e]; rfl
theorem or_bit0 {k : Nat} (hk : k < 8) : bits .or .i64 ((k : Int) * 32) 0 = ((k * 32 : Nat) : Int) := by
  have e := Bit.or_i64 (k * 32) 0 (by omega) (by omega)
  rw [Nat.or_zero] at e
  rw [← e]; rfl
theorem or_z {k z : Nat} {b : Bool} (hk : k < 8) (hz : z < 16) : bits .or .i64 ((k * 32 + bit b : Nat) : Int) (z : Int) = ((k * 32 + bit b + z : Nat) : Int) := by
  have hb := bit_le b
  have e := Bit.or_i64 (k * 32 + bit b) z (by omega) (by omega)
  have h := or_add (k * 2 + bit b / 16) 4 z (by omega)
  rw [show (k * 2 + bit b / 16) * 2 ^ 4 = k * 32 + bit b by omega] at h
  rw [h] at e
  exact e
theorem or_c {k : Nat} {b : Bool} (hk : k < 8) : (b = true → bits .or .i64 ((k : Int) * 32) 16 = ((k * 32 + bit b : Nat) : Int)) ∧ (b = false → bits .or .i64 ((k : Int) * 32) 0 = ((k * 32 + bit b : Nat) : Int)) :=
  ⟨fun h => by subst h; exact or_bit16 hk, fun h => by subst h; exact or_bit0 hk⟩
end If
theorem rwrite_any (k n a c : Int) (b : Bool) (d : ByteArray) (w : World) :
    Calls Tryz.prog 111 #[.agg #[.int .i64 k, .int .i64 n, .int .i64 a, .int .i64 c, .bool b, .string d]] w fun e w' => e = .returned (.tuple #[.string ⟨(If.wr ⟨k, n, a, c, b, d.data.toList⟩).1.toArray⟩, .int .i64 ((If.wr ⟨k, n, a, c, b, d.data.toList⟩).2 : Nat)]) ∧ Below w.heap.size w w' := by
  have HK := fun W => rkind_any k W
  have no : (If.kind k = false ∨ ¬ ((0 ≤ n ∧ n ≤ 31) ∧ (0 ≤ a ∧ a ≤ 31) ∧ (0 ≤ c ∧ c ≤ 7))) → If.wr ⟨k, n, a, c, b, d.data.toList⟩ = ([], 1) := fun h => by
    unfold If.wr
    rw [if_neg]
    intro hh
    rcases h with h | h
    · rw [h] at hh; exact absurd hh.1 (by simp)
    · exact h hh.2
  cases hk : If.kind k with
  | false =>
    rw [hk] at HK
    rw [no (Or.inl hk)]
    exact rwrite_no0 k n a c b d w HK
  | true =>
    rw [hk] at HK
    by_cases t0 : n < 0
    · rw [no (Or.inr (by omega))]
      exact rwrite_no1 k n a c b d w HK (decide_eq_true t0)
    by_cases t1 : 31 < n
    · rw [no (Or.inr (by omega))]
      exact rwrite_no2 k n a c b d w HK (decide_eq_false t0) (decide_eq_true t1)
    by_cases t2 : a < 0
    · rw [no (Or.inr (by omega))]
      exact rwrite_no3 k n a c b d w HK (decide_eq_false t0) (decide_eq_false t1) (decide_eq_true t2)
    by_cases t3 : 31 < a
    · rw [no (Or.inr (by omega))]
      exact rwrite_no4 k n a c b d w HK (decide_eq_false t0) (decide_eq_false t1) (decide_eq_false t2) (decide_eq_true t3)
    by_cases t4 : c < 0
    · rw [no (Or.inr (by omega))]
      exact rwrite_no5 k n a c b d w HK (decide_eq_false t0) (decide_eq_false t1) (decide_eq_false t2) (decide_eq_false t3) (decide_eq_true t4)
    by_cases t5 : 7 < c
    · rw [no (Or.inr (by omega))]
      exact rwrite_no6 k n a c b d w HK (decide_eq_false t0) (decide_eq_false t1) (decide_eq_false t2) (decide_eq_false t3) (decide_eq_false t4) (decide_eq_true t5)
    clear no
    have hargs : If.kind k = true ∧ (0 ≤ n ∧ n ≤ 31) ∧ (0 ≤ a ∧ a ≤ 31) ∧ (0 ≤ c ∧ c ≤ 7) := ⟨hk, by omega, by omega, by omega⟩
    have hle := If.len_eq d
    by_cases hl : 4096 ≤ d.size
    · rw [show If.wr ⟨k, n, a, c, b, d.data.toList⟩ = ([], 5) by unfold If.wr; rw [if_pos hargs, if_pos (by dsimp only; omega)]]
      exact rwrite_long k n a c b d w HK (decide_eq_false t0) (decide_eq_false t1) (decide_eq_false t2) (decide_eq_false t3) (decide_eq_false t4) (decide_eq_false t5) (by simp; omega)
    · rw [show If.wr ⟨k, n, a, c, b, d.data.toList⟩ = (If.text ⟨k, n, a, c, b, d.data.toList⟩, 0) by unfold If.wr; rw [if_pos hargs, if_neg (by dsimp only; omega)]]
      have hkl := If.kind_lt hk
      obtain ⟨k, rfl⟩ : ∃ m : Nat, k = (m : Int) := ⟨k.toNat, by omega⟩
      obtain ⟨n, rfl⟩ : ∃ m : Nat, n = (m : Int) := ⟨n.toNat, by omega⟩
      obtain ⟨a, rfl⟩ : ∃ m : Nat, a = (m : Int) := ⟨a.toNat, by omega⟩
      obtain ⟨c, rfl⟩ : ∃ m : Nat, c = (m : Int) := ⟨c.toNat, by omega⟩
      have hk8 : k < 8 := by omega
      have hn : n < 32 := by omega
      have ha : a < 32 := by omega
      have hc : c < 8 := by omega
      have hz16 : d.size / 256 < 16 := by omega
      have hb := If.bit_le b
      have lA : n * 8 + c < 256 := by omega
      have lB : a * 8 + c < 256 := by omega
      have lC : k * 32 + If.bit b + d.size / 256 < 256 := by omega
      have lD : d.size % 256 < 256 := by omega
      have lX := If.xor_byte lA lB lC lD
      have l1 := Chk.xor8 lA lB
      have l2 := Chk.xor8 l1 lC
      have oA := If.or_i8 hn hc
      have oB := If.or_i8 ha hc
      have oC := If.or_z (b := b) hk8 hz16
      obtain ⟨oT, oF⟩ := If.or_c (b := b) hk8
      have oD : bits .and .i64 (d.size : Int) 255 = ((d.size % 256 : Nat) : Int) := by rw [Bit.and_i64_255]; omega
      have sZ : (d.size : Int) / 256 = ((d.size / 256 : Nat) : Int) := by omega
      have x1 := Bit.xor_i64 (n * 8 + c) (a * 8 + c) (by omega) (by omega)
      have x2 := Bit.xor_i64 ((n * 8 + c) ^^^ (a * 8 + c)) (k * 32 + If.bit b + d.size / 256) (by omega) (by omega)
      have x3 := Bit.xor_i64 ((n * 8 + c) ^^^ (a * 8 + c) ^^^ (k * 32 + If.bit b + d.size / 256)) (d.size % 256) (by omega) (by omega)
      have hw : If.text ⟨(k : Int), (n : Int), (a : Int), (c : Int), b, d.data.toList⟩ = If.head (n * 8 + c) (a * 8 + c) (k * 32 + If.bit b + d.size / 256) (d.size % 256) ++ If.body d.data.toList := by
        unfold If.text If.hd
        simp only [Int.toNat_natCast]
        rw [hle]
      have q0 := decide_eq_false t0
      have q1 := decide_eq_false t1
      have q2 := decide_eq_false t2
      have q3 := decide_eq_false t3
      have q4 := decide_eq_false t4
      have q5 := decide_eq_false t5
      have q6 : decide ((4096 : Int) ≤ (d.size : Int)) = false := by simp; omega
      have cv : ∀ A B C D X : Nat, A < 256 → B < 256 → C < 256 → D < 256 → X < 256 → (convert 65 9 (.slice (some ⟨w.heap.size + 1, 0, none⟩) 6 6)).run Tryz.prog ((w.alloc (.cells #[.int .i64 k, .int .i64 n, .int .i64 a, .int .i64 c, .bool b, .string d] 55)).alloc (.cells #[.int .u8 7, .int .u8 A, .int .u8 B, .int .u8 C, .int .u8 D, .int .u8 X] 5)) = .ok (.string ⟨[7, UInt8.ofNat A, UInt8.ofNat B, UInt8.ofNat C, UInt8.ofNat D, UInt8.ofNat X].toArray⟩) ((w.alloc (.cells #[.int .i64 k, .int .i64 n, .int .i64 a, .int .i64 c, .bool b, .string d] 55)).alloc (.cells #[.int .u8 7, .int .u8 A, .int .u8 B, .int .u8 C, .int .u8 D, .int .u8 X] 5)) := fun A B C D X hA hB hC hD hX => by
        have h1 : (((w.alloc (.cells #[.int .i64 k, .int .i64 n, .int .i64 a, .int .i64 c, .bool b, .string d] 55)).alloc (.cells #[.int .u8 7, .int .u8 A, .int .u8 B, .int .u8 C, .int .u8 D, .int .u8 X] 5))).heap[w.heap.size + 1]? = some (.cells #[.int .u8 7, .int .u8 A, .int .u8 B, .int .u8 C, .int .u8 D, .int .u8 X] 5) := by
          have := If.heap_new (w.alloc (.cells #[.int .i64 k, .int .i64 n, .int .i64 a, .int .i64 c, .bool b, .string d] 55)) (.cells #[.int .u8 7, .int .u8 A, .int .u8 B, .int .u8 C, .int .u8 D, .int .u8 X] 5)
          rw [If.alloc_size] at this
          exact this
        exact If.conv_at (l := [7, A, B, C, D, X]) h1 (by simp; omega) (fun j hj => by
          have : j = 0 ∨ j = 1 ∨ j = 2 ∨ j = 3 ∨ j = 4 ∨ j = 5 := by simp at hj; omega
          rcases this with rfl | rfl | rfl | rfl | rfl | rfl <;> rfl)
      have cv := cv _ _ _ _ _ lA lB lC lD lX
      rw [hw]
      unfold If.head
      by_cases h0 : d.size = 0
      · obtain rfl := If.empty_of h0
        rw [show If.body (⟨#[]⟩ : ByteArray).data.toList = [] from rfl, List.append_nil]
        cases b with
        | true => exact rwrite_bare_true k n a c _ _ _ _ _ _ _ _ _ 0 w hk8 hn ha hc HK q0 q1 q2 q3 q4 q5 q6 (by decide) oA oB sZ oT oF oC oD x1 x2 x3 (by rw [IntKind.wrap_u8]; omega) (by rw [IntKind.wrap_u8]; omega) (by rw [IntKind.wrap_u8]; omega) (by rw [IntKind.wrap_u8]; omega) (by rw [IntKind.wrap_u8]; omega) _ (by exact Nat.le_refl 6) cv
        | false => exact rwrite_bare_false k n a c _ _ _ _ _ _ _ _ _ 0 w hk8 hn ha hc HK q0 q1 q2 q3 q4 q5 q6 (by decide) oA oB sZ oT oF oC oD x1 x2 x3 (by rw [IntKind.wrap_u8]; omega) (by rw [IntKind.wrap_u8]; omega) (by rw [IntKind.wrap_u8]; omega) (by rw [IntKind.wrap_u8]; omega) (by rw [IntKind.wrap_u8]; omega) _ (by exact Nat.le_refl 6) cv
      · rw [If.body_some (by omega)]
        have hcl := If.crc_lt d.data.toList
        have HC := fun W => refCrc_any d W (by unfold maxLen; omega)
        have HP := fun W => rput4_any (If.crc d.data.toList) hcl W
        have hne := If.ne_nil (s := d) (by omega)
        have hfin : ∀ L : List UInt8, (⟨L.toArray⟩ : ByteArray) ++ d ++ ⟨(If.be4 (If.crc d.data.toList)).toArray⟩ = ⟨(L ++ (d.data.toList ++ If.be4 (If.crc d.data.toList))).toArray⟩ := fun L => by
          rw [← List.append_assoc, ← If.ba_app, ← If.ba_app, If.ba_toList]
        rw [← hfin]
        cases b with
        | true => exact rwrite_full_true k n a c _ _ _ _ _ _ _ _ _ 0 d w hk8 hn ha hc HK q0 q1 q2 q3 q4 q5 q6 (by omega) oA oB sZ oT oF oC oD x1 x2 x3 (by rw [IntKind.wrap_u8]; omega) (by rw [IntKind.wrap_u8]; omega) (by rw [IntKind.wrap_u8]; omega) (by rw [IntKind.wrap_u8]; omega) (by rw [IntKind.wrap_u8]; omega) _ (by exact Nat.le_refl 6) cv hne _ _ (by exact Nat.le_refl 4) HC (ikeepF w HP)
        | false => exact rwrite_full_false k n a c _ _ _ _ _ _ _ _ _ 0 d w hk8 hn ha hc HK q0 q1 q2 q3 q4 q5 q6 (by omega) oA oB sZ oT oF oC oD x1 x2 x3 (by rw [IntKind.wrap_u8]; omega) (by rw [IntKind.wrap_u8]; omega) (by rw [IntKind.wrap_u8]; omega) (by rw [IntKind.wrap_u8]; omega) (by rw [IntKind.wrap_u8]; omega) _ (by exact Nat.le_refl 6) cv hne _ _ (by exact Nat.le_refl 4) HC (ikeepF w HP)
end Go.Proofs.YtomldoijcclhhaaGreat
