/-
  Walks of layer 13: Read.
-/
import Derived.Test.YteiajngfeiemkabDoorPa3
namespace Go.Proofs.YteiajngfeiemkabDoor
open Go.RowKit
namespace Pa
def resV : Res → Value
  | .ok x => .tuple #[.agg #[.int .i64 x.1.tg, .string ⟨x.1.data.toArray⟩], .int .i64 (x.2 : Nat), .int .i64 0]
  | .error e => .tuple #[.agg #[.int .i64 0, .string ⟨#[]⟩], .int .i64 0, .int .i64 (e : Nat)]
end Pa
set_option maxHeartbeats 1000000 in
theorem pread_tag (s : ByteArray) (e : Nat) (he : ¬ e = 0) (w : World)
    (HT : Hid (∀ W, Calls Tryd.prog 18 #[.string s] W fun x w' => x = .returned (.tuple #[.int .i64 0, .int .i64 (e : Int)]) ∧ w' = W)) :
    Calls Tryd.prog 9 #[.string s] w fun x w' => x = .returned (Pa.resV (.error e)) ∧ Below w.heap.size w w' := by
  have bw := If.below1 w (.cells #[.int .i64 0, .string ⟨#[]⟩] 34)
  have d1 : ((e : Int) != 0) = true := by rw [bne_iff_ne]; omega
  have d2 : ((e : Int) == 0) = false := by rw [beq_eq_false_iff_ne]; omega
  go_enter Tryd.func9, Tryd.ntmps9
  go_wp2_with (go_at_call 18; refine (HT.out _).mono ?_; rintro x w2 ⟨rfl, rfl⟩)
  exact bodyPost_ret (v := Pa.resV (.error e)) (by simp [results, Tryd.results9, go_sem, Pa.resV]) rfl ⟨rfl, bw⟩
set_option maxHeartbeats 1000000 in
theorem pread_size (s : ByteArray) (h1 : 1 ≤ s.size) (hml : s.size ≤ 9223372036854775807) (t : Int) (e : Nat) (he : ¬ e = 0) (w : World)
    (HT : Hid (∀ W, Calls Tryd.prog 18 #[.string s] W fun x w' => x = .returned (.tuple #[.int .i64 t, .int .i64 0]) ∧ w' = W))
    (HS : Hid (∀ W, Calls Tryd.prog 19 #[.string (s.extract 1 s.size)] W fun x w' => x = .returned (.tuple #[.int .i64 0, .int .i64 (e : Int)]) ∧ w' = W)) :
    Calls Tryd.prog 9 #[.string s] w fun x w' => x = .returned (Pa.resV (.error e)) ∧ Below w.heap.size w w' := by
  have bw := If.below1 w (.cells #[.int .i64 0, .string ⟨#[]⟩] 34)
  have d1 : ((e : Int) != 0) = true := by rw [bne_iff_ne]; omega
  have d2 : ((e : Int) == 0) = false := by rw [beq_eq_false_iff_ne]; omega
  have hi : (1 : Int) ≤ (s.size : Int) := by omega
  go_enter Tryd.func9, Tryd.ntmps9
  go_wp2_with (first
    | (go_at_call 18; refine (HT.out _).mono ?_; rintro x w2 ⟨rfl, rfl⟩)
    | (go_at_call 19; refine (HS.out _).mono ?_; rintro x w2 ⟨rfl, rfl⟩))
  exact bodyPost_ret (v := Pa.resV (.error e)) (by simp [results, Tryd.results9, go_sem, Pa.resV]) rfl ⟨rfl, bw⟩
set_option maxHeartbeats 1000000 in
theorem pread_short (s : ByteArray) (h1 : 1 ≤ s.size) (hml : s.size ≤ 9223372036854775807) (t : Int) (n P : Nat) (hw : IntKind.i64.wrap (5 + (n : Int)) = (P : Int)) (hl : s.size < P) (w : World)
    (HT : Hid (∀ W, Calls Tryd.prog 18 #[.string s] W fun x w' => x = .returned (.tuple #[.int .i64 t, .int .i64 0]) ∧ w' = W))
    (HS : Hid (∀ W, Calls Tryd.prog 19 #[.string (s.extract 1 s.size)] W fun x w' => x = .returned (.tuple #[.int .i64 (n : Int), .int .i64 0]) ∧ w' = W)) :
    Calls Tryd.prog 9 #[.string s] w fun x w' => x = .returned (Pa.resV (.error 2)) ∧ Below w.heap.size w w' := by
  have bw := If.below1 w (.cells #[.int .i64 0, .string ⟨#[]⟩] 34)
  have hi : (1 : Int) ≤ (s.size : Int) := by omega
  have d1 : decide ((s.size : Int) < (P : Int)) = true := by simp; omega
  have d2 : decide (s.size < P) = true := by simp; omega
  go_enter Tryd.func9, Tryd.ntmps9
  go_wp2_with (first
    | (go_at_call 18; refine (HT.out _).mono ?_; rintro x w2 ⟨rfl, rfl⟩)
    | (go_at_call 19; refine (HS.out _).mono ?_; rintro x w2 ⟨rfl, rfl⟩))
  exact bodyPost_ret (v := Pa.resV (.error 2)) (by simp [results, Tryd.results9, go_sem, Pa.resV]) rfl ⟨rfl, bw⟩
set_option maxHeartbeats 1000000 in
theorem pread_yes (s : ByteArray) (h1 : 1 ≤ s.size) (hml : s.size ≤ 9223372036854775807) (t : Int) (n P : Nat) (hw : IntKind.i64.wrap (5 + (n : Int)) = (P : Int)) (hw2 : wrap64 (5 + (n : Int)) = (P : Int)) (h5 : 5 ≤ P) (hl : P ≤ s.size) (w : World)
    (HT : Hid (∀ W, Calls Tryd.prog 18 #[.string s] W fun x w' => x = .returned (.tuple #[.int .i64 t, .int .i64 0]) ∧ w' = W))
    (HS : Hid (∀ W, Calls Tryd.prog 19 #[.string (s.extract 1 s.size)] W fun x w' => x = .returned (.tuple #[.int .i64 (n : Int), .int .i64 0]) ∧ w' = W)) :
    Calls Tryd.prog 9 #[.string s] w fun x w' => x = .returned (.tuple #[.agg #[.int .i64 t, .string (s.extract 5 P)], .int .i64 (P : Int), .int .i64 0]) ∧ Below w.heap.size w w' := by
  have bw := If.below1 w (.cells #[.int .i64 t, .string (s.extract 5 P)] 34)
  have hi : (1 : Int) ≤ (s.size : Int) := by omega
  have d1 : decide ((s.size : Int) < (P : Int)) = false := by simp; omega
  have d2 : decide (s.size < P) = false := by simp; omega
  have hi5 : (5 : Int) ≤ (P : Int) := by omega
  have hiP : (P : Int) ≤ (s.size : Int) := by omega
  go_enter Tryd.func9, Tryd.ntmps9
  go_wp2_with (first
    | (go_at_call 18; refine (HT.out _).mono ?_; rintro x w2 ⟨rfl, rfl⟩)
    | (go_at_call 19; refine (HS.out _).mono ?_; rintro x w2 ⟨rfl, rfl⟩))
  exact bodyPost_ret (v := .tuple #[.agg #[.int .i64 t, .string (s.extract 5 P)], .int .i64 (P : Int), .int .i64 0]) (by simp [results, Tryd.results9, go_sem]) rfl ⟨rfl, bw⟩
namespace Pa
theorem empty {s : ByteArray} (h : s.size = 0) : s = ⟨#[]⟩ := by
  apply ByteArray.ext
  exact Array.eq_empty_of_size_eq_zero h
theorem rest1 (s : ByteArray) (h : 0 < s.size) : (s.extract 1 s.size).data.toList = s.data.toList.drop 1 := by
  rw [If.extract_eq s 1 s.size h (Nat.le_refl _), List.take_of_length_le]
  rw [List.length_drop, If.len_eq]
  exact Nat.le_refl _
theorem read_at (s : ByteArray) (h : 0 < s.size) : read s.data.toList = if tag s[0].toNat = true then readBody s[0].toNat (sz 4 0 (s.data.toList.drop 1)) else .error 3 := by
  have e := drop_at s 0 h
  rw [List.drop_zero] at e
  conv => lhs; rw [e]
  rw [read_cons]
theorem sz_rest {s : ByteArray} {n : Nat} {t : List UInt8} (h : sz 4 0 (s.data.toList.drop 1) = .ok (n, t)) : n ≤ 4096 ∧ 5 ≤ s.size ∧ t = s.data.toList.drop 5 ∧ t.length = s.size - 5 := by
  obtain ⟨h1, h2⟩ := sz_ok h
  have h3 : t = s.data.toList.drop 5 := by
    rw [show (5 : Nat) = 1 + 4 from rfl, ← List.drop_drop, h2]; rfl
  have h4 := congrArg List.length h2
  rw [List.length_drop, If.len_eq, List.length_append] at h4
  have h5 : (d4 n).length = 4 := rfl
  refine ⟨h1, by omega, h3, by omega⟩
theorem cut_eq (s : ByteArray) (n : Nat) (h : 5 + n ≤ s.size) : s.extract 5 (5 + n) = ⟨((s.data.toList.drop 5).take n).toArray⟩ := by
  have e := If.extract_eq s 5 (5 + n) (by omega) h
  rw [show 5 + n - 5 = n by omega] at e
  rw [← e]
theorem sz_err {r : List UInt8} : ∀ {k m e : Nat}, sz k m r = .error e → ¬ e = 0 := by
  induction r with
  | nil =>
    intro k m e h
    cases k with
    | zero => rw [sz_zero] at h; split at h; (· cases h; omega); cases h
    | succ k => rw [sz_end (by omega)] at h; cases h; omega
  | cons c r ih =>
    intro k m e h
    cases k with
    | zero => rw [sz_zero] at h; split at h; (· cases h; omega); cases h
    | succ k =>
      cases hd : dig c with
      | true => rw [sz_step (by omega) hd] at h; exact ih h
      | false => rw [sz_form (by omega) hd] at h; cases h; omega
end Pa
theorem pread_any (s : ByteArray) (hs : s.size ≤ maxLen) (w : World) :
    Calls Tryd.prog 9 #[.string s] w fun x w' => x = .returned (Pa.resV (Pa.read s.data.toList)) ∧ Below w.heap.size w w' := by
  have hml : s.size ≤ 9223372036854775807 := hs
  by_cases h0 : s.size = 0
  · obtain rfl := Pa.empty h0
    exact pread_tag _ 2 (by omega) w (fun W => readTag_none W)
  have h1 : 0 < s.size := by omega
  rw [Pa.read_at s h1]
  cases ht : Pa.tag (s[0].toNat : Int) with
  | false =>
    rw [if_neg (by simp)]
    exact pread_tag s 3 (by omega) w (fun W => readTag_no s hs h1 ht W)
  | true =>
    rw [if_pos rfl]
    have HT : Hid _ := fun W => readTag_yes s hs h1 ht W
    have hx : (s.extract 1 s.size).size = s.size - 1 := If.extract_size s 1 s.size h1 (Nat.le_refl _)
    have HS := fun W => readSize_any (s.extract 1 s.size) (by omega) W
    rw [Pa.rest1 s h1] at HS
    cases hz : Pa.sz 4 0 (s.data.toList.drop 1) with
    | error e =>
      rw [hz] at HS
      exact pread_size s h1 hml _ e (Pa.sz_err hz) w HT HS
    | ok y =>
      obtain ⟨n, t⟩ := y
      rw [hz] at HS
      obtain ⟨k1, k2, k3, k4⟩ := Pa.sz_rest hz
      have hw : IntKind.i64.wrap (5 + (n : Int)) = ((5 + n : Nat) : Int) := by rw [IntKind.wrap_i64]; omega
      have hw2 : wrap64 (5 + (n : Int)) = ((5 + n : Nat) : Int) := by unfold wrap64; omega
      unfold Pa.readBody
      dsimp only
      by_cases hl : s.size < 5 + n
      · rw [if_pos (by omega)]
        exact pread_short s h1 hml _ n (5 + n) hw hl w HT HS
      · rw [if_neg (by omega)]
        have h := pread_yes s h1 hml _ n (5 + n) hw hw2 (by omega) (by omega) w HT HS
        rw [Pa.cut_eq s n (by omega), ← k3] at h
        exact h
end Go.Proofs.YteiajngfeiemkabDoor
