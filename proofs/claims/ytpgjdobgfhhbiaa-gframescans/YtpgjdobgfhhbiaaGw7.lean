/-
  Walks of layer 11: what stands behind a head.
-/
import Derived.Test.YtpgjdobgfhhbiaaGw6
import Derived.Test.YtpgjdobgfhhbiaaRowH
namespace Go.Proofs.Ytpgjdobgfhhbiaa
open Go.RowKit
set_option maxHeartbeats 1000000 in
theorem readBody_short (s : ByteArray) (k m c : Nat) (t : Int) (hlt : s.size < Gf.size k) (h1 : 1 ≤ k) (h8 : k ≤ 8) (hs : s.size ≤ maxLen) (w : World) :
    Calls Try.prog 31 #[.string s, .agg #[.int .i64 k, .int .i64 m, .int .i64 c], .int .i64 t] w fun e w' => e = .returned (.tuple #[.string ⟨#[]⟩, .int .i64 2]) ∧ Below w.heap.size w w' := by
  have bw := Gf.below1 w (.cells #[.int .i64 k, .int .i64 m, .int .i64 c] 45)
  have k0 : Rg.Bk w.heap.size [.int .i64 k, .int .i64 m, .int .i64 c] 45 (w.alloc (.cells #[.int .i64 k, .int .i64 m, .int .i64 c] 45)) := Rg.Bk.new rfl
  have HS : Hid (∀ W, Calls Try.prog 30 #[.int .i64 k] W fun e w' => e = .returned (.int .i64 (Gf.size k : Nat)) ∧ w' = W) := fun W => sizeOf_any k h1 h8 W
  have hz := Gf.size_range h1 h8
  clear h1 h8
  have hml : s.size ≤ 9223372036854775807 := hs
  generalize Gf.size k = z at *
  have d1 : decide ((s.size : Int) < (z : Int)) = true := by simp; omega
  clear hs
  go_enter Try.func31, Try.ntmps31
  go_wp2_with (go_at_call 30; refine (HS.out _).mono ?_; rintro e w2 ⟨rfl, rfl⟩)
  go_ret2
  exact ⟨rfl, bw⟩
set_option maxHeartbeats 1000000 in
theorem readBody_sum (s : ByteArray) (k m c : Nat) (t : Int) (hge : ¬ s.size < Gf.size k) (hp : ¬ (m : Int) = Chk.packet (s.data.toList.take (Gf.size k)) c) (h1 : 1 ≤ k) (h8 : k ≤ 8) (hs : s.size ≤ maxLen) (w : World) :
    Calls Try.prog 31 #[.string s, .agg #[.int .i64 k, .int .i64 m, .int .i64 c], .int .i64 t] w fun e w' => e = .returned (.tuple #[.string ⟨#[]⟩, .int .i64 4]) ∧ Below w.heap.size w w' := by
  have bw := Gf.below1 w (.cells #[.int .i64 k, .int .i64 m, .int .i64 c] 45)
  have k0 : Rg.Bk w.heap.size [.int .i64 k, .int .i64 m, .int .i64 c] 45 (w.alloc (.cells #[.int .i64 k, .int .i64 m, .int .i64 c] 45)) := Rg.Bk.new rfl
  have HS : Hid (∀ W, Calls Try.prog 30 #[.int .i64 k] W fun e w' => e = .returned (.int .i64 (Gf.size k : Nat)) ∧ w' = W) := fun W => sizeOf_any k h1 h8 W
  have hz := Gf.size_range h1 h8
  clear h1 h8
  have hml : s.size ≤ 9223372036854775807 := hs
  have hbd : (s.extract 0 (Gf.size k)).data.toList = s.data.toList.take (Gf.size k) := by rw [Gf.extract_eq s 0 _ (Nat.zero_le _) (by omega)]; rfl
  have hbs : (s.extract 0 (Gf.size k)).size = Gf.size k := by rw [← Gf.len_eq, hbd, List.length_take, Gf.len_eq]; omega
  have HP : Hid (∀ W, Calls Try.prog 36 #[.string (s.extract 0 (Gf.size k)), .int .i64 c] W fun e w' => e = .returned (.int .i64 (Chk.packet (s.data.toList.take (Gf.size k)) c)) ∧ w' = W) := fun W => by have := packet_any (s.extract 0 (Gf.size k)) c W (by unfold maxLen; omega); rwa [hbd] at this
  generalize Chk.packet (s.data.toList.take (Gf.size k)) c = P at *
  have d1 : decide ((s.size : Int) < (Gf.size k : Int)) = false := by simp; omega
  have d2 : ((m : Int) == P) = false := beq_eq_false_iff_ne.2 hp
  clear hp hbd
  generalize Gf.size k = z at *
  clear hs
  go_enter Try.func31, Try.ntmps31
  go_upto_region 5 with (go_at_call 30; refine (HS.out _).mono ?_; rintro e w2 ⟨rfl, rfl⟩)
  have c0 := k0.cell 0; have c1 := k0.cell 1; have c2 := k0.cell 2
  simp only [List.getElem?_cons_zero, List.getElem?_cons_succ] at c0 c1 c2
  generalize s.extract 0 z = bd at *
  generalize w.alloc (.cells #[.int .i64 k, .int .i64 m, .int .i64 c] 45) = W at *
  generalize hB : w.heap.size = B at *
  replace hB := Rg.hid hB
  go_region_held3 (fun w' => w'.cell? ⟨B, 0, none⟩ = some (.int .i64 k) ∧ w'.cell? ⟨B, 1, none⟩ = some (.int .i64 m) ∧ w'.cell? ⟨B, 2, none⟩ = some (.int .i64 c)) (go_keep) (first
    | (go_at_call 36; refine (HP.out _).mono ?_; rintro e w2 ⟨rfl, rfl⟩))
  go_wp2
  go_ret2
  exact ⟨rfl, by rw [hB.out]; first | exact bw | exact bw.drew⟩
set_option maxHeartbeats 1000000 in
theorem readBody_long (s : ByteArray) (k m c : Nat) (hge : ¬ s.size < Gf.size k) (hp : (m : Int) = Chk.packet (s.data.toList.take (Gf.size k)) c) (h1 : 1 ≤ k) (h8 : k ≤ 8) (hs : s.size ≤ maxLen) (w : World) :
    Calls Try.prog 31 #[.string s, .agg #[.int .i64 k, .int .i64 m, .int .i64 c], .int .i64 2] w fun e w' => e = .returned (.tuple #[.string ⟨(s.data.toList.take (Gf.size k)).toArray⟩, .int .i64 0]) ∧ Below w.heap.size w w' := by
  have bw := Gf.below1 w (.cells #[.int .i64 k, .int .i64 m, .int .i64 c] 45)
  have k0 : Rg.Bk w.heap.size [.int .i64 k, .int .i64 m, .int .i64 c] 45 (w.alloc (.cells #[.int .i64 k, .int .i64 m, .int .i64 c] 45)) := Rg.Bk.new rfl
  have HS : Hid (∀ W, Calls Try.prog 30 #[.int .i64 k] W fun e w' => e = .returned (.int .i64 (Gf.size k : Nat)) ∧ w' = W) := fun W => sizeOf_any k h1 h8 W
  have hz := Gf.size_range h1 h8
  clear h1 h8
  have hml : s.size ≤ 9223372036854775807 := hs
  have hbd : (s.extract 0 (Gf.size k)).data.toList = s.data.toList.take (Gf.size k) := by rw [Gf.extract_eq s 0 _ (Nat.zero_le _) (by omega)]; rfl
  have hbs : (s.extract 0 (Gf.size k)).size = Gf.size k := by rw [← Gf.len_eq, hbd, List.length_take, Gf.len_eq]; omega
  have HP : Hid (∀ W, Calls Try.prog 36 #[.string (s.extract 0 (Gf.size k)), .int .i64 c] W fun e w' => e = .returned (.int .i64 (Chk.packet (s.data.toList.take (Gf.size k)) c)) ∧ w' = W) := fun W => by have := packet_any (s.extract 0 (Gf.size k)) c W (by unfold maxLen; omega); rwa [hbd] at this
  generalize Chk.packet (s.data.toList.take (Gf.size k)) c = P at *
  have d1 : decide ((s.size : Int) < (Gf.size k : Int)) = false := by simp; omega
  have d2 : ((m : Int) == P) = true := beq_iff_eq.2 hp
  have hr : Hid ((s.extract 0 (Gf.size k)) = ⟨(s.data.toList.take (Gf.size k)).toArray⟩) := by show _ = _; rw [← hbd]
  clear hp hbd
  generalize Gf.size k = z at *
  clear hs
  go_enter Try.func31, Try.ntmps31
  go_upto_region 5 with (go_at_call 30; refine (HS.out _).mono ?_; rintro e w2 ⟨rfl, rfl⟩)
  have c0 := k0.cell 0; have c1 := k0.cell 1; have c2 := k0.cell 2
  simp only [List.getElem?_cons_zero, List.getElem?_cons_succ] at c0 c1 c2
  generalize s.extract 0 z = bd at *
  generalize w.alloc (.cells #[.int .i64 k, .int .i64 m, .int .i64 c] 45) = W at *
  generalize hB : w.heap.size = B at *
  replace hB := Rg.hid hB
  go_region_held3 (fun w' => w'.cell? ⟨B, 0, none⟩ = some (.int .i64 k) ∧ w'.cell? ⟨B, 1, none⟩ = some (.int .i64 m) ∧ w'.cell? ⟨B, 2, none⟩ = some (.int .i64 c)) (go_keep) (first
    | (go_at_call 36; refine (HP.out _).mono ?_; rintro e w2 ⟨rfl, rfl⟩))
  go_wp2
  go_ret2
  exact ⟨ret_se hr.out rfl, by rw [hB.out]; first | exact bw | exact bw.drew⟩
set_option maxHeartbeats 1000000 in
theorem readBody_field (s : ByteArray) (k m c : Nat) (hge : ¬ s.size < Gf.size k) (hp : (m : Int) = Chk.packet (s.data.toList.take (Gf.size k)) c) (h1 : 1 ≤ k) (h8 : k ≤ 8) (hs : s.size ≤ maxLen) (w : World) :
    Calls Try.prog 31 #[.string s, .agg #[.int .i64 k, .int .i64 m, .int .i64 c], .int .i64 3] w fun e w' => e = .returned (fieldOut (Gf.unfield (s.data.toList.take (Gf.size k)))) ∧ Below w.heap.size w w' := by
  have bw := Gf.below1 w (.cells #[.int .i64 k, .int .i64 m, .int .i64 c] 45)
  have k0 : Rg.Bk w.heap.size [.int .i64 k, .int .i64 m, .int .i64 c] 45 (w.alloc (.cells #[.int .i64 k, .int .i64 m, .int .i64 c] 45)) := Rg.Bk.new rfl
  have HS : Hid (∀ W, Calls Try.prog 30 #[.int .i64 k] W fun e w' => e = .returned (.int .i64 (Gf.size k : Nat)) ∧ w' = W) := fun W => sizeOf_any k h1 h8 W
  have hz := Gf.size_range h1 h8
  clear h1 h8
  have hml : s.size ≤ 9223372036854775807 := hs
  have hbd : (s.extract 0 (Gf.size k)).data.toList = s.data.toList.take (Gf.size k) := by rw [Gf.extract_eq s 0 _ (Nat.zero_le _) (by omega)]; rfl
  have hbs : (s.extract 0 (Gf.size k)).size = Gf.size k := by rw [← Gf.len_eq, hbd, List.length_take, Gf.len_eq]; omega
  have HP : Hid (∀ W, Calls Try.prog 36 #[.string (s.extract 0 (Gf.size k)), .int .i64 c] W fun e w' => e = .returned (.int .i64 (Chk.packet (s.data.toList.take (Gf.size k)) c)) ∧ w' = W) := fun W => by have := packet_any (s.extract 0 (Gf.size k)) c W (by unfold maxLen; omega); rwa [hbd] at this
  generalize Chk.packet (s.data.toList.take (Gf.size k)) c = P at *
  have d1 : decide ((s.size : Int) < (Gf.size k : Int)) = false := by simp; omega
  have d2 : ((m : Int) == P) = true := beq_iff_eq.2 hp
  have HF : Hid (∀ W, Below w.heap.size w W → Calls Try.prog 39 #[.string (s.extract 0 (Gf.size k))] W fun e w' => e = .returned (fieldOut (Gf.unfield (s.data.toList.take (Gf.size k)))) ∧ Below w.heap.size w w') := fun W hW => by
    have h := readField_any (s.extract 0 (Gf.size k)) (by omega) (by omega) W
    rw [hbd] at h
    exact h.mono fun e w' ⟨a, b⟩ => ⟨a, hW.trans (b.mono hW.size)⟩
  clear hp hbd
  generalize Gf.unfield (s.data.toList.take (Gf.size k)) = U at *
  obtain ⟨x, e, hU⟩ : ∃ (x : ByteArray) (e : Int), fieldOut U = .tuple #[.string x, .int .i64 e] := by cases U <;> exact ⟨_, _, rfl⟩
  rw [hU] at HF ⊢
  clear hU
  generalize Gf.size k = z at *
  clear hs
  go_enter Try.func31, Try.ntmps31
  go_upto_region 5 with (go_at_call 30; refine (HS.out _).mono ?_; rintro e w2 ⟨rfl, rfl⟩)
  have c0 := k0.cell 0; have c1 := k0.cell 1; have c2 := k0.cell 2
  simp only [List.getElem?_cons_zero, List.getElem?_cons_succ] at c0 c1 c2
  generalize s.extract 0 z = bd at *
  generalize w.alloc (.cells #[.int .i64 k, .int .i64 m, .int .i64 c] 45) = W at *
  generalize hB : w.heap.size = B at *
  replace hB := Rg.hid hB
  go_region_held3 (fun w' => w'.cell? ⟨B, 0, none⟩ = some (.int .i64 k) ∧ w'.cell? ⟨B, 1, none⟩ = some (.int .i64 m) ∧ w'.cell? ⟨B, 2, none⟩ = some (.int .i64 c)) (go_keep) (first
    | (go_at_call 36; refine (HP.out _).mono ?_; rintro e w2 ⟨rfl, rfl⟩))
  go_wp2_with (go_at_call 39; refine (HF.out _ ?_).mono ?_; (first | exact bw | exact bw.drew); rintro e w3 ⟨rfl, b3⟩)
  go_ret2
  exact ⟨rfl, by rw [hB.out]; first | exact b3 | exact b3.drew⟩
end Go.Proofs.Ytpgjdobgfhhbiaa
