/-
  Walks of layer 12: Write.
-/
import Derived.Test.YtghelhcmecmldaaIf1
import Derived.Test.YtghelhcmecmldaaIf3
import Derived.Test.YtghelhcmecmldaaIf4
namespace Go.Proofs.Ytghelhcmecmldaa
open Go.RowKit
set_option maxHeartbeats 1000000 in
theorem iwrite_no0 (k n a c : Int) (b : Bool) (d : ByteArray) (w : World)
    (HK : Hid (∀ W, Calls Try.prog 16 #[.int .i64 k] W fun e w' => e = .returned (.bool false) ∧ w' = W)) :
    Calls Try.prog 10 #[.agg #[.int .i64 k, .int .i64 n, .int .i64 a, .int .i64 c, .bool b, .string d]] w fun e w' => e = .returned (.tuple #[.string ⟨#[]⟩, .int .i64 1]) ∧ Below w.heap.size w w' := by
  have bw := If.below1 w (.cells #[.int .i64 k, .int .i64 n, .int .i64 a, .int .i64 c, .bool b, .string d] 23)
  go_enter Try.func10, Try.ntmps10
  go_wp2_with (first
    | (go_at_call 16; refine (HK.out _).mono ?_; rintro e w2 ⟨rfl, rfl⟩))
  go_ret2
  exact ⟨rfl, bw⟩
set_option maxHeartbeats 1000000 in
theorem iwrite_no1 (k n a c : Int) (b : Bool) (d : ByteArray) (w : World)
    (HK : Hid (∀ W, Calls Try.prog 16 #[.int .i64 k] W fun e w' => e = .returned (.bool true) ∧ w' = W))
    (HN : Hid (∀ W, Calls Try.prog 17 #[.int .i64 n, .int .i64 31] W fun e w' => e = .returned (.bool false) ∧ w' = W)) :
    Calls Try.prog 10 #[.agg #[.int .i64 k, .int .i64 n, .int .i64 a, .int .i64 c, .bool b, .string d]] w fun e w' => e = .returned (.tuple #[.string ⟨#[]⟩, .int .i64 1]) ∧ Below w.heap.size w w' := by
  have bw := If.below1 w (.cells #[.int .i64 k, .int .i64 n, .int .i64 a, .int .i64 c, .bool b, .string d] 23)
  go_enter Try.func10, Try.ntmps10
  go_wp2_with (first
    | (go_at_call 16; refine (HK.out _).mono ?_; rintro e w2 ⟨rfl, rfl⟩)
    | (go_at_call 17; (first | with_reducible refine (HN.out _).mono ?_); rintro e w2 ⟨rfl, rfl⟩))
  go_ret2
  exact ⟨rfl, bw⟩
set_option maxHeartbeats 1000000 in
theorem iwrite_no2 (k n a c : Int) (b : Bool) (d : ByteArray) (w : World)
    (HK : Hid (∀ W, Calls Try.prog 16 #[.int .i64 k] W fun e w' => e = .returned (.bool true) ∧ w' = W))
    (HN : Hid (∀ W, Calls Try.prog 17 #[.int .i64 n, .int .i64 31] W fun e w' => e = .returned (.bool true) ∧ w' = W))
    (HA : Hid (∀ W, Calls Try.prog 17 #[.int .i64 a, .int .i64 31] W fun e w' => e = .returned (.bool false) ∧ w' = W)) :
    Calls Try.prog 10 #[.agg #[.int .i64 k, .int .i64 n, .int .i64 a, .int .i64 c, .bool b, .string d]] w fun e w' => e = .returned (.tuple #[.string ⟨#[]⟩, .int .i64 1]) ∧ Below w.heap.size w w' := by
  have bw := If.below1 w (.cells #[.int .i64 k, .int .i64 n, .int .i64 a, .int .i64 c, .bool b, .string d] 23)
  go_enter Try.func10, Try.ntmps10
  go_wp2_with (first
    | (go_at_call 16; refine (HK.out _).mono ?_; rintro e w2 ⟨rfl, rfl⟩)
    | (go_at_call 17; (first | with_reducible refine (HN.out _).mono ?_ | with_reducible refine (HA.out _).mono ?_); rintro e w2 ⟨rfl, rfl⟩))
  go_ret2
  exact ⟨rfl, bw⟩
set_option maxHeartbeats 1000000 in
theorem iwrite_no3 (k n a c : Int) (b : Bool) (d : ByteArray) (w : World)
    (HK : Hid (∀ W, Calls Try.prog 16 #[.int .i64 k] W fun e w' => e = .returned (.bool true) ∧ w' = W))
    (HN : Hid (∀ W, Calls Try.prog 17 #[.int .i64 n, .int .i64 31] W fun e w' => e = .returned (.bool true) ∧ w' = W))
    (HA : Hid (∀ W, Calls Try.prog 17 #[.int .i64 a, .int .i64 31] W fun e w' => e = .returned (.bool true) ∧ w' = W))
    (HC : Hid (∀ W, Calls Try.prog 17 #[.int .i64 c, .int .i64 7] W fun e w' => e = .returned (.bool false) ∧ w' = W)) :
    Calls Try.prog 10 #[.agg #[.int .i64 k, .int .i64 n, .int .i64 a, .int .i64 c, .bool b, .string d]] w fun e w' => e = .returned (.tuple #[.string ⟨#[]⟩, .int .i64 1]) ∧ Below w.heap.size w w' := by
  have bw := If.below1 w (.cells #[.int .i64 k, .int .i64 n, .int .i64 a, .int .i64 c, .bool b, .string d] 23)
  go_enter Try.func10, Try.ntmps10
  go_wp2_with (first
    | (go_at_call 16; refine (HK.out _).mono ?_; rintro e w2 ⟨rfl, rfl⟩)
    | (go_at_call 17; (first | with_reducible refine (HN.out _).mono ?_ | with_reducible refine (HA.out _).mono ?_ | with_reducible refine (HC.out _).mono ?_); rintro e w2 ⟨rfl, rfl⟩))
  go_ret2
  exact ⟨rfl, bw⟩
set_option maxHeartbeats 1000000 in
theorem iwrite_long (k n a c : Int) (b : Bool) (d : ByteArray) (w : World) (hl : decide ((4096 : Int) ≤ (d.size : Int)) = true)
    (HK : Hid (∀ W, Calls Try.prog 16 #[.int .i64 k] W fun e w' => e = .returned (.bool true) ∧ w' = W))
    (HN : Hid (∀ W, Calls Try.prog 17 #[.int .i64 n, .int .i64 31] W fun e w' => e = .returned (.bool true) ∧ w' = W))
    (HA : Hid (∀ W, Calls Try.prog 17 #[.int .i64 a, .int .i64 31] W fun e w' => e = .returned (.bool true) ∧ w' = W))
    (HC : Hid (∀ W, Calls Try.prog 17 #[.int .i64 c, .int .i64 7] W fun e w' => e = .returned (.bool true) ∧ w' = W)) :
    Calls Try.prog 10 #[.agg #[.int .i64 k, .int .i64 n, .int .i64 a, .int .i64 c, .bool b, .string d]] w fun e w' => e = .returned (.tuple #[.string ⟨#[]⟩, .int .i64 5]) ∧ Below w.heap.size w w' := by
  have bw := If.below1 w (.cells #[.int .i64 k, .int .i64 n, .int .i64 a, .int .i64 c, .bool b, .string d] 23)
  go_enter Try.func10, Try.ntmps10
  go_wp2_with (first
    | (go_at_call 16; refine (HK.out _).mono ?_; rintro e w2 ⟨rfl, rfl⟩)
    | (go_at_call 17; (first | with_reducible refine (HN.out _).mono ?_ | with_reducible refine (HA.out _).mono ?_ | with_reducible refine (HC.out _).mono ?_); rintro e w2 ⟨rfl, rfl⟩))
  go_ret2
  exact ⟨rfl, bw⟩
set_option maxHeartbeats 2000000 in
theorem iwrite_yes (k n a c : Int) (b : Bool) (d : ByteArray) (w : World) (hl : decide ((4096 : Int) ≤ (d.size : Int)) = false) (X Y : ByteArray) (hX : X.size ≤ 6) (hY : Y.size ≤ 4100)
    (HK : Hid (∀ W, Calls Try.prog 16 #[.int .i64 k] W fun e w' => e = .returned (.bool true) ∧ w' = W))
    (HN : Hid (∀ W, Calls Try.prog 17 #[.int .i64 n, .int .i64 31] W fun e w' => e = .returned (.bool true) ∧ w' = W))
    (HA : Hid (∀ W, Calls Try.prog 17 #[.int .i64 a, .int .i64 31] W fun e w' => e = .returned (.bool true) ∧ w' = W))
    (HC : Hid (∀ W, Calls Try.prog 17 #[.int .i64 c, .int .i64 7] W fun e w' => e = .returned (.bool true) ∧ w' = W))
    (HH : Hid (∀ W, Below w.heap.size w W → Rg.Bk w.heap.size [.int .i64 k, .int .i64 n, .int .i64 a, .int .i64 c, .bool b, .string d] 23 W → Calls Try.prog 18 #[.agg #[.int .i64 k, .int .i64 n, .int .i64 a, .int .i64 c, .bool b, .string d], .int .i64 d.size] W fun e w' => e = .returned (.string X) ∧ Below w.heap.size w w' ∧ Rg.Bk w.heap.size [.int .i64 k, .int .i64 n, .int .i64 a, .int .i64 c, .bool b, .string d] 23 w'))
    (HB : Hid (∀ W, Below w.heap.size w W → Rg.Bk w.heap.size [.int .i64 k, .int .i64 n, .int .i64 a, .int .i64 c, .bool b, .string d] 23 W → Calls Try.prog 19 #[.string d] W fun e w' => e = .returned (.string Y) ∧ Below w.heap.size w w' ∧ Rg.Bk w.heap.size [.int .i64 k, .int .i64 n, .int .i64 a, .int .i64 c, .bool b, .string d] 23 w')) :
    Calls Try.prog 10 #[.agg #[.int .i64 k, .int .i64 n, .int .i64 a, .int .i64 c, .bool b, .string d]] w fun e w' => e = .returned (.tuple #[.string (X ++ Y), .int .i64 0]) ∧ Below w.heap.size w w' := by
  have bw := If.below1 w (.cells #[.int .i64 k, .int .i64 n, .int .i64 a, .int .i64 c, .bool b, .string d] 23)
  have k0 : Rg.Bk w.heap.size [.int .i64 k, .int .i64 n, .int .i64 a, .int .i64 c, .bool b, .string d] 23 (w.alloc (.cells #[.int .i64 k, .int .i64 n, .int .i64 a, .int .i64 c, .bool b, .string d] 23)) := Rg.Bk.new rfl
  have hsum : ¬ 9223372036854775807 < X.size + Y.size := by omega
  go_enter Try.func10, Try.ntmps10
  go_upto_region 5 with (first
    | (go_at_call 16; refine (HK.out _).mono ?_; rintro e w2 ⟨rfl, rfl⟩)
    | (go_at_call 17; (first | with_reducible refine (HN.out _).mono ?_ | with_reducible refine (HA.out _).mono ?_ | with_reducible refine (HC.out _).mono ?_); rintro e w2 ⟨rfl, rfl⟩))
  have c0 := k0.cell 0; have c1 := k0.cell 1; have c2 := k0.cell 2; have c3 := k0.cell 3; have c4 := k0.cell 4; have c5 := k0.cell 5; simp only [List.getElem?_cons_zero, List.getElem?_cons_succ] at c0 c1 c2 c3 c4 c5
  generalize w.alloc (.cells #[.int .i64 k, .int .i64 n, .int .i64 a, .int .i64 c, .bool b, .string d] 23) = W at *
  generalize hB : w.heap.size = B at *
  replace hB := Rg.hid hB
  go_region_held3 (fun w' => w'.cell? ⟨B, 0, none⟩ = some (.int .i64 k) ∧ w'.cell? ⟨B, 1, none⟩ = some (.int .i64 n) ∧ w'.cell? ⟨B, 2, none⟩ = some (.int .i64 a) ∧ w'.cell? ⟨B, 3, none⟩ = some (.int .i64 c) ∧ w'.cell? ⟨B, 4, none⟩ = some (.bool b) ∧ w'.cell? ⟨B, 5, none⟩ = some (.string d)) (go_keep) (first
    | (go_at_call 18; refine (HH.out _ ?_ ?_).mono ?_; (first | exact bw | exact bw.drew); (first | exact k0 | exact k0.drew); rintro e w2 ⟨rfl, b2, k2⟩; have e0 := k2.cell 0; have e1 := k2.cell 1; have e2 := k2.cell 2; have e3 := k2.cell 3; have e4 := k2.cell 4; have e5 := k2.cell 5; simp only [List.getElem?_cons_zero, List.getElem?_cons_succ] at e0 e1 e2 e3 e4 e5)
    | (go_at_call 19; refine (HB.out _ ?_ ?_).mono ?_; (first | exact b2 | exact b2.drew); (first | exact k2 | exact k2.drew); rintro e w3 ⟨rfl, b3, k3⟩; have d0 := k3.cell 0; have d1 := k3.cell 1; have d2 := k3.cell 2; have d3 := k3.cell 3; have d4 := k3.cell 4; have d5 := k3.cell 5; simp only [List.getElem?_cons_zero, List.getElem?_cons_succ] at d0 d1 d2 d3 d4 d5))
  go_wp2
  go_ret2
  exact ⟨rfl, by rw [hB.out]; first | exact b3 | exact b3.drew⟩
/-- What Write answers. -/
def If.wr (f : If.Fr) : List UInt8 × Nat := if If.kind f.kd = true ∧ (0 ≤ f.nm ∧ f.nm ≤ 31) ∧ (0 ≤ f.ak ∧ f.ak ≤ 31) ∧ (0 ≤ f.ch ∧ f.ch ≤ 7) then (if 4096 ≤ f.data.length then ([], 5) else (If.text f, 0)) else ([], 1)
theorem If.wr_ok {f : If.Fr} (h : If.ok f) : If.wr f = (If.text f, 0) := by
  have h2 := h.2
  unfold If.wr
  rw [if_pos (show _ ∧ _ from h.1), if_neg (by omega)]
theorem If.wr_no {f : If.Fr} (h : ¬ If.ok f) : (If.wr f).1 = [] ∧ ((If.wr f).2 = 1 ∨ (If.wr f).2 = 5) := by
  unfold If.wr
  split
  · rename_i hq
    split
    · exact ⟨rfl, Or.inr rfl⟩
    · rename_i hl
      exact absurd ⟨hq, by omega⟩ h
  · exact ⟨rfl, Or.inl rfl⟩
theorem iwrite_any (k n a c : Int) (b : Bool) (d : ByteArray) (w : World) :
    Calls Try.prog 10 #[.agg #[.int .i64 k, .int .i64 n, .int .i64 a, .int .i64 c, .bool b, .string d]] w fun e w' => e = .returned (.tuple #[.string ⟨(If.wr ⟨k, n, a, c, b, d.data.toList⟩).1.toArray⟩, .int .i64 ((If.wr ⟨k, n, a, c, b, d.data.toList⟩).2 : Nat)]) ∧ Below w.heap.size w w' := by
  have HK := fun W => isKind_any k W
  have HN := fun W => isUpTo_any n 31 W
  have HA := fun W => isUpTo_any a 31 W
  have HC := fun W => isUpTo_any c 7 W
  cases hk : If.kind k with
  | false =>
    rw [hk] at HK
    rw [show If.wr ⟨k, n, a, c, b, d.data.toList⟩ = ([], 1) by unfold If.wr; rw [if_neg (by rw [hk]; simp)]]
    exact iwrite_no0 k n a c b d w HK
  | true =>
    rw [hk] at HK
    by_cases hn : ¬ (0 ≤ n ∧ n ≤ 31)
    · rw [decide_eq_false hn] at HN
      rw [show If.wr ⟨k, n, a, c, b, d.data.toList⟩ = ([], 1) by unfold If.wr; rw [if_neg fun h => hn h.2.1]]
      exact iwrite_no1 k n a c b d w HK HN
    have hn := Decidable.not_not.1 hn
    rw [decide_eq_true hn] at HN
    by_cases ha : ¬ (0 ≤ a ∧ a ≤ 31)
    · rw [decide_eq_false ha] at HA
      rw [show If.wr ⟨k, n, a, c, b, d.data.toList⟩ = ([], 1) by unfold If.wr; rw [if_neg fun h => ha h.2.2.1]]
      exact iwrite_no2 k n a c b d w HK HN HA
    have ha := Decidable.not_not.1 ha
    rw [decide_eq_true ha] at HA
    by_cases hc : ¬ (0 ≤ c ∧ c ≤ 7)
    · rw [decide_eq_false hc] at HC
      rw [show If.wr ⟨k, n, a, c, b, d.data.toList⟩ = ([], 1) by unfold If.wr; rw [if_neg fun h => hc h.2.2.2]]
      exact iwrite_no3 k n a c b d w HK HN HA HC
    have hc := Decidable.not_not.1 hc
    rw [decide_eq_true hc] at HC
    have hargs : If.kind k = true ∧ (0 ≤ n ∧ n ≤ 31) ∧ (0 ≤ a ∧ a ≤ 31) ∧ (0 ≤ c ∧ c ≤ 7) := ⟨hk, hn, ha, hc⟩
    have hle := If.len_eq d
    by_cases hl : 4096 ≤ d.size
    · rw [show If.wr ⟨k, n, a, c, b, d.data.toList⟩ = ([], 5) by unfold If.wr; rw [if_pos hargs, if_pos (by dsimp only; omega)]]
      exact iwrite_long k n a c b d w (by simp; omega) HK HN HA HC
    · rw [show If.wr ⟨k, n, a, c, b, d.data.toList⟩ = (If.text ⟨k, n, a, c, b, d.data.toList⟩, 0) by unfold If.wr; rw [if_pos hargs, if_neg (by dsimp only; omega)]]
      have hkl := If.kind_lt hk
      obtain ⟨k, rfl⟩ : ∃ m : Nat, k = (m : Int) := ⟨k.toNat, by omega⟩
      obtain ⟨n, rfl⟩ : ∃ m : Nat, n = (m : Int) := ⟨n.toNat, by omega⟩
      obtain ⟨a, rfl⟩ : ∃ m : Nat, a = (m : Int) := ⟨a.toNat, by omega⟩
      obtain ⟨c, rfl⟩ : ∃ m : Nat, c = (m : Int) := ⟨c.toNat, by omega⟩
      have HH := fun W => head_any k n a c d.size b d (by omega) (by omega) (by omega) (by omega) (by omega) W
      have HB := fun W => body_any d (by omega) W
      have hs := If.body_len d.data.toList
      have hs2 := If.bsz_le d.data.toList.length
      have h := iwrite_yes k n a c b d w (by simp; omega) ⟨(If.hd k n a c b d.size).toArray⟩ ⟨(If.body d.data.toList).toArray⟩ (Nat.le_refl 6) (by rw [If.size_of]; omega) HK HN HA HC (keepF w HH) (keepF w HB)
      rw [If.ba_app] at h
      unfold If.text
      simp only [Int.toNat_natCast]
      rw [hle]
      exact h
end Go.Proofs.Ytghelhcmecmldaa
