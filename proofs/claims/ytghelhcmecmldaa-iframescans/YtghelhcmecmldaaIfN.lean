/-
  Walks of layer 12: the document's Read, where it refuses at once.
-/
import Derived.Test.YtghelhcmecmldaaIf7
namespace Go.Proofs.Ytghelhcmecmldaa
open Go.RowKit
set_option linter.unusedVariables false in
set_option maxHeartbeats 4000000 in
set_option maxRecDepth 100000 in
theorem rread_empty (w : World) :
    Calls Try.prog 13 #[.string ⟨#[]⟩] w fun e w' => e = .returned (If.resV (.error 2)) ∧ Below w.heap.size w w' := by
  have bw := If.more (If.below1 w (.cells #[.int .i64 0, .int .i64 0, .int .i64 0, .int .i64 0, .bool false, .string ⟨#[]⟩] 23)) (.cells #[.int .i64 0, .int .i64 0, .int .i64 0, .int .i64 0, .bool false, .string ⟨#[]⟩] 23)
  go_enter Try.func13, Try.ntmps13
  go_wp2
  exact bodyPost_ret (v := If.resV (.error 2)) (by simp [results, Try.results13, go_sem, If.resV]) rfl ⟨rfl, bw⟩
set_option linter.unusedVariables false in
set_option maxHeartbeats 4000000 in
set_option maxRecDepth 100000 in
theorem rread_form (s : ByteArray) (h0 : 0 < s.size) (h : ¬ s[0].toNat = 7) (hs : s.size ≤ maxLen) (w : World) :
    Calls Try.prog 13 #[.string s] w fun e w' => e = .returned (If.resV (.error 3)) ∧ Below w.heap.size w w' := by
  have bw := If.more (If.below1 w (.cells #[.int .i64 0, .int .i64 0, .int .i64 0, .int .i64 0, .bool false, .string ⟨#[]⟩] 23)) (.cells #[.int .i64 0, .int .i64 0, .int .i64 0, .int .i64 0, .bool false, .string ⟨#[]⟩] 23)
  have hml : s.size ≤ 9223372036854775807 := hs
  have e0 := If.ne_nil h0
  have d1 : ((s[0].toNat : Int) == 7) = false := beq_eq_false_iff_ne.2 (by omega)
  have hb := UInt8.toNat_lt s[0]
  clear hs
  go_enter Try.func13, Try.ntmps13
  go_wp2
  exact bodyPost_ret (v := If.resV (.error 3)) (by simp [results, Try.results13, go_sem, If.resV]) rfl ⟨rfl, bw⟩
set_option linter.unusedVariables false in
set_option maxHeartbeats 4000000 in
set_option maxRecDepth 100000 in
theorem rread_short (s : ByteArray) (h0 : 0 < s.size) (h : s[0].toNat = 7) (h6 : s.size < 6) (w : World) :
    Calls Try.prog 13 #[.string s] w fun e w' => e = .returned (If.resV (.error 2)) ∧ Below w.heap.size w w' := by
  have bw := If.more (If.below1 w (.cells #[.int .i64 0, .int .i64 0, .int .i64 0, .int .i64 0, .bool false, .string ⟨#[]⟩] 23)) (.cells #[.int .i64 0, .int .i64 0, .int .i64 0, .int .i64 0, .bool false, .string ⟨#[]⟩] 23)
  have e0 := If.ne_nil h0
  have d1 : ((s[0].toNat : Int) == 7) = true := by rw [h]; rfl
  have d2 : decide ((s.size : Int) < 6) = true := by simp; omega
  go_enter Try.func13, Try.ntmps13
  go_wp2
  exact bodyPost_ret (v := If.resV (.error 2)) (by simp [results, Try.results13, go_sem, If.resV]) rfl ⟨rfl, bw⟩
set_option linter.unusedVariables false in
set_option maxHeartbeats 4000000 in
set_option maxRecDepth 100000 in
theorem rread_xor (s : ByteArray) (w : World) (h6 : 6 ≤ s.size) (hml : s.size ≤ 9223372036854775807) (e0 : (s.toList == []) = false) (d1 : ((s[0].toNat : Int) == 7) = true) (d2 : decide ((s.size : Int) < 6) = false) (j1 : (1 : Int) < (s.size : Int)) (j2 : (2 : Int) < (s.size : Int)) (j3 : (3 : Int) < (s.size : Int)) (j4 : (4 : Int) < (s.size : Int)) (j6 : (6 : Int) ≤ (s.size : Int))
    (b1 : s[1].toNat < 256) (b2 : s[2].toNat < 256) (b3 : s[3].toNat < 256) (b4 : s[4].toNat < 256) (XV : Nat) (z1 : ¬ XV = 0) (z2 : ((XV : Int) == 0) = false) (z3 : ((XV : Int) != 0) = true) (HX : Hid (∀ W, Calls Try.prog 26 #[.string (s.extract 1 6)] W fun e w' => e = .returned (.int .i64 XV) ∧ w' = W)) :
    Calls Try.prog 13 #[.string s] w fun e w' => e = .returned (If.resV (.error 3)) ∧ Below w.heap.size w w' := by
  go_enter Try.func13, Try.ntmps13
  go_upto_region 8 with fail
  go_big_region
  have kR : Rg.Bk w.heap.size [.int .i64 0, .int .i64 0, .int .i64 0, .int .i64 0, .bool false, .string ⟨#[]⟩] 23 ((w.alloc (.cells #[.int .i64 0, .int .i64 0, .int .i64 0, .int .i64 0, .bool false, .string ⟨#[]⟩] 23)).alloc (.cells #[.int .i64 0, .int .i64 0, .int .i64 0, .int .i64 0, .bool false, .string ⟨#[]⟩] 23)).drew := ((Rg.Bk.new rfl).old _).drew
  have kN : Rg.Bk (w.heap.size + 1) [.int .i64 0, .int .i64 0, .int .i64 0, .int .i64 0, .bool false, .string ⟨#[]⟩] 23 ((w.alloc (.cells #[.int .i64 0, .int .i64 0, .int .i64 0, .int .i64 0, .bool false, .string ⟨#[]⟩] 23)).alloc (.cells #[.int .i64 0, .int .i64 0, .int .i64 0, .int .i64 0, .bool false, .string ⟨#[]⟩] 23)).drew := (Rg.Bk.new (by simp)).drew
  have bR : Below w.heap.size w ((w.alloc (.cells #[.int .i64 0, .int .i64 0, .int .i64 0, .int .i64 0, .bool false, .string ⟨#[]⟩] 23)).alloc (.cells #[.int .i64 0, .int .i64 0, .int .i64 0, .int .i64 0, .bool false, .string ⟨#[]⟩] 23)).drew := (If.more (If.below1 w _) _).drew
  have hne : ¬ w.heap.size = w.heap.size + 1 := by omega
  generalize ((w.alloc (.cells #[.int .i64 0, .int .i64 0, .int .i64 0, .int .i64 0, .bool false, .string ⟨#[]⟩] 23)).alloc (.cells #[.int .i64 0, .int .i64 0, .int .i64 0, .int .i64 0, .bool false, .string ⟨#[]⟩] 23)).drew = W at *
  generalize hPN : w.heap.size + 1 = PN at *
  clear hPN
  have cN := kN.cell; have cR := kR.cell; have fR := kR.thaw; have zR := kR.lt
  have hk := Rg.ret6 kR rfl (.int .i64 0) (.int .i64 0) (.int .i64 0) (.int .i64 0) (.bool false) (.string ⟨#[]⟩)
  go_wp2_with (first | (go_at_call 26; refine (HX.out _).mono ?_; rintro e w2 ⟨rfl, hw2⟩; obtain rfl := hw2.symm))
  clear cR fR zR cN
  generalize World.setCell _ _ _ = WE at *
  obtain ⟨kE, oE⟩ := hk
  have cE := kE.cell
  exact bodyPost_ret (v := If.resV (.error 3)) (by simp [results, Try.results13, go_sem, cE, If.resV]) rfl ⟨rfl, bR.trans (oE.bel (Nat.le_refl _))⟩
set_option linter.unusedVariables false in
set_option maxHeartbeats 4000000 in
set_option maxRecDepth 100000 in
theorem rread_kind (s : ByteArray) (w : World) (h6 : 6 ≤ s.size) (hml : s.size ≤ 9223372036854775807) (e0 : (s.toList == []) = false) (d1 : ((s[0].toNat : Int) == 7) = true) (d2 : decide ((s.size : Int) < 6) = false) (j1 : (1 : Int) < (s.size : Int)) (j2 : (2 : Int) < (s.size : Int)) (j3 : (3 : Int) < (s.size : Int)) (j4 : (4 : Int) < (s.size : Int)) (j6 : (6 : Int) ≤ (s.size : Int))
    (b1 : s[1].toNat < 256) (b2 : s[2].toNat < 256) (b3 : s[3].toNat < 256) (b4 : s[4].toNat < 256) (HX : Hid (∀ W, Calls Try.prog 26 #[.string (s.extract 1 6)] W fun e w' => e = .returned (.int .i64 0) ∧ w' = W)) (K : Nat) (f1 : (s[3].toNat : Int) / 32 = (K : Int)) (HK : Hid (∀ W, Calls Try.prog 20 #[.int .i64 K] W fun e w' => e = .returned (.bool false) ∧ w' = W)) :
    Calls Try.prog 13 #[.string s] w fun e w' => e = .returned (If.resV (.error 3)) ∧ Below w.heap.size w w' := by
  go_enter Try.func13, Try.ntmps13
  go_upto_region 8 with fail
  go_big_region
  have kR : Rg.Bk w.heap.size [.int .i64 0, .int .i64 0, .int .i64 0, .int .i64 0, .bool false, .string ⟨#[]⟩] 23 ((w.alloc (.cells #[.int .i64 0, .int .i64 0, .int .i64 0, .int .i64 0, .bool false, .string ⟨#[]⟩] 23)).alloc (.cells #[.int .i64 0, .int .i64 0, .int .i64 0, .int .i64 0, .bool false, .string ⟨#[]⟩] 23)).drew := ((Rg.Bk.new rfl).old _).drew
  have kN : Rg.Bk (w.heap.size + 1) [.int .i64 0, .int .i64 0, .int .i64 0, .int .i64 0, .bool false, .string ⟨#[]⟩] 23 ((w.alloc (.cells #[.int .i64 0, .int .i64 0, .int .i64 0, .int .i64 0, .bool false, .string ⟨#[]⟩] 23)).alloc (.cells #[.int .i64 0, .int .i64 0, .int .i64 0, .int .i64 0, .bool false, .string ⟨#[]⟩] 23)).drew := (Rg.Bk.new (by simp)).drew
  have bR : Below w.heap.size w ((w.alloc (.cells #[.int .i64 0, .int .i64 0, .int .i64 0, .int .i64 0, .bool false, .string ⟨#[]⟩] 23)).alloc (.cells #[.int .i64 0, .int .i64 0, .int .i64 0, .int .i64 0, .bool false, .string ⟨#[]⟩] 23)).drew := (If.more (If.below1 w _) _).drew
  have hne : ¬ w.heap.size = w.heap.size + 1 := by omega
  generalize ((w.alloc (.cells #[.int .i64 0, .int .i64 0, .int .i64 0, .int .i64 0, .bool false, .string ⟨#[]⟩] 23)).alloc (.cells #[.int .i64 0, .int .i64 0, .int .i64 0, .int .i64 0, .bool false, .string ⟨#[]⟩] 23)).drew = W at *
  generalize hPN : w.heap.size + 1 = PN at *
  clear hPN
  have cN := kN.cell; have cR := kR.cell; have fR := kR.thaw; have zR := kR.lt
  have hk := Rg.ret6 kR rfl (.int .i64 0) (.int .i64 0) (.int .i64 0) (.int .i64 0) (.bool false) (.string ⟨#[]⟩)
  go_wp2_with (first | (go_at_call 26; refine (HX.out _).mono ?_; rintro e w2 ⟨rfl, hw2⟩; obtain rfl := hw2.symm) | (go_at_call 20; refine (HK.out _).mono ?_; rintro e w2 ⟨rfl, hw2⟩; obtain rfl := hw2.symm))
  clear cR fR zR cN
  generalize World.setCell _ _ _ = WE at *
  obtain ⟨kE, oE⟩ := hk
  have cE := kE.cell
  exact bodyPost_ret (v := If.resV (.error 3)) (by simp [results, Try.results13, go_sem, cE, If.resV]) rfl ⟨rfl, bR.trans (oE.bel (Nat.le_refl _))⟩
set_option linter.unusedVariables false in
set_option maxHeartbeats 4000000 in
set_option maxRecDepth 100000 in
theorem rread_chan (s : ByteArray) (w : World) (h6 : 6 ≤ s.size) (hml : s.size ≤ 9223372036854775807) (e0 : (s.toList == []) = false) (d1 : ((s[0].toNat : Int) == 7) = true) (d2 : decide ((s.size : Int) < 6) = false) (j1 : (1 : Int) < (s.size : Int)) (j2 : (2 : Int) < (s.size : Int)) (j3 : (3 : Int) < (s.size : Int)) (j4 : (4 : Int) < (s.size : Int)) (j6 : (6 : Int) ≤ (s.size : Int))
    (b1 : s[1].toNat < 256) (b2 : s[2].toNat < 256) (b3 : s[3].toNat < 256) (b4 : s[4].toNat < 256) (HX : Hid (∀ W, Calls Try.prog 26 #[.string (s.extract 1 6)] W fun e w' => e = .returned (.int .i64 0) ∧ w' = W)) (K : Nat) (f1 : (s[3].toNat : Int) / 32 = (K : Int)) (HK : Hid (∀ W, Calls Try.prog 20 #[.int .i64 K] W fun e w' => e = .returned (.bool true) ∧ w' = W)) (C C2 : Nat) (f4 : bits .and .i64 (s[1].toNat : Int) 7 = (C : Int)) (f5 : bits .and .i64 (s[2].toNat : Int) 7 = (C2 : Int)) (z1 : ¬ C = C2) (z2 : ((C : Int) == (C2 : Int)) = false) (z3 : ((C : Int) != (C2 : Int)) = true) :
    Calls Try.prog 13 #[.string s] w fun e w' => e = .returned (If.resV (.error 3)) ∧ Below w.heap.size w w' := by
  go_enter Try.func13, Try.ntmps13
  go_upto_region 8 with fail
  go_big_region
  have kR : Rg.Bk w.heap.size [.int .i64 0, .int .i64 0, .int .i64 0, .int .i64 0, .bool false, .string ⟨#[]⟩] 23 ((w.alloc (.cells #[.int .i64 0, .int .i64 0, .int .i64 0, .int .i64 0, .bool false, .string ⟨#[]⟩] 23)).alloc (.cells #[.int .i64 0, .int .i64 0, .int .i64 0, .int .i64 0, .bool false, .string ⟨#[]⟩] 23)).drew := ((Rg.Bk.new rfl).old _).drew
  have kN : Rg.Bk (w.heap.size + 1) [.int .i64 0, .int .i64 0, .int .i64 0, .int .i64 0, .bool false, .string ⟨#[]⟩] 23 ((w.alloc (.cells #[.int .i64 0, .int .i64 0, .int .i64 0, .int .i64 0, .bool false, .string ⟨#[]⟩] 23)).alloc (.cells #[.int .i64 0, .int .i64 0, .int .i64 0, .int .i64 0, .bool false, .string ⟨#[]⟩] 23)).drew := (Rg.Bk.new (by simp)).drew
  have bR : Below w.heap.size w ((w.alloc (.cells #[.int .i64 0, .int .i64 0, .int .i64 0, .int .i64 0, .bool false, .string ⟨#[]⟩] 23)).alloc (.cells #[.int .i64 0, .int .i64 0, .int .i64 0, .int .i64 0, .bool false, .string ⟨#[]⟩] 23)).drew := (If.more (If.below1 w _) _).drew
  have hne : ¬ w.heap.size = w.heap.size + 1 := by omega
  generalize ((w.alloc (.cells #[.int .i64 0, .int .i64 0, .int .i64 0, .int .i64 0, .bool false, .string ⟨#[]⟩] 23)).alloc (.cells #[.int .i64 0, .int .i64 0, .int .i64 0, .int .i64 0, .bool false, .string ⟨#[]⟩] 23)).drew = W at *
  generalize hPN : w.heap.size + 1 = PN at *
  clear hPN
  have cN := kN.cell; have cR := kR.cell; have fR := kR.thaw; have zR := kR.lt
  have hk := Rg.ret6 kR rfl (.int .i64 0) (.int .i64 0) (.int .i64 0) (.int .i64 0) (.bool false) (.string ⟨#[]⟩)
  go_wp2_with (first | (go_at_call 26; refine (HX.out _).mono ?_; rintro e w2 ⟨rfl, hw2⟩; obtain rfl := hw2.symm) | (go_at_call 20; refine (HK.out _).mono ?_; rintro e w2 ⟨rfl, hw2⟩; obtain rfl := hw2.symm))
  clear cR fR zR cN
  generalize World.setCell _ _ _ = WE at *
  obtain ⟨kE, oE⟩ := hk
  have cE := kE.cell
  exact bodyPost_ret (v := If.resV (.error 3)) (by simp [results, Try.results13, go_sem, cE, If.resV]) rfl ⟨rfl, bR.trans (oE.bel (Nat.le_refl _))⟩
end Go.Proofs.Ytghelhcmecmldaa
