/-
  Walks of layer 12: Read, where it refuses at once. Walks of layer 12: Read of a head that is not written so. Walks of layer 12: Read of a body that is refused. Walks of layer 12: Read of a packet. Walks of layer 12: Read of a kind that is none. Walks of layer 12: Read of whatever bytes.
-/
import Derived.Test.YtlclfkogbfigbaaCuBE
import Derived.Test.YtlclfkogbfigbaaCuAI
namespace Go.Proofs.Ytlclfkogbfigbaa
open Go.RowKit
namespace If
def resV : Res → Value
  | .ok x => .tuple #[.agg #[.int .i64 x.1.kd, .int .i64 x.1.nm, .int .i64 x.1.ak, .int .i64 x.1.ch, .bool x.1.ca, .string ⟨x.1.data.toArray⟩], .int .i64 (x.2 : Nat), .int .i64 0]
  | .error e => .tuple #[.agg #[.int .i64 0, .int .i64 0, .int .i64 0, .int .i64 0, .bool false, .string ⟨#[]⟩], .int .i64 0, .int .i64 (e : Nat)]
end If
theorem Rg.ret6 {b : Nat} {C : List Value} {ty : TypeId} {W : World} (h : Bk b C ty W) (hC : C.length = 6) (v0 v1 v2 v3 v4 v5 : Value) :
    Bk b [v0, v1, v2, v3, v4, v5] ty ((((((W.setCell ⟨b, 0, none⟩ v0).setCell ⟨b, 1, none⟩ v1).setCell ⟨b, 2, none⟩ v2).setCell ⟨b, 3, none⟩ v3).setCell ⟨b, 4, none⟩ v4).setCell ⟨b, 5, none⟩ v5) ∧ Only b W ((((((W.setCell ⟨b, 0, none⟩ v0).setCell ⟨b, 1, none⟩ v1).setCell ⟨b, 2, none⟩ v2).setCell ⟨b, 3, none⟩ v3).setCell ⟨b, 4, none⟩ v4).setCell ⟨b, 5, none⟩ v5) := by
  have k := (((((h.set 0 v0).set 1 v1).set 2 v2).set 3 v3).set 4 v4).set 5 v5
  match C, hC with
  | [_, _, _, _, _, _], _ => exact ⟨k, (((((Only.setCell W b 0 v0).trans (Only.setCell _ b 1 v1)).trans (Only.setCell _ b 2 v2)).trans (Only.setCell _ b 3 v3)).trans (Only.setCell _ b 4 v4)).trans (Only.setCell _ b 5 v5)⟩
set_option maxHeartbeats 1000000 in
theorem iread_empty (w : World) :
    Calls Try.prog 40 #[.string ⟨#[]⟩] w fun e w' => e = .returned (If.resV (.error 2)) ∧ Below w.heap.size w w' := by
  have bw := If.below1 w (.cells #[.int .i64 0, .int .i64 0, .int .i64 0, .int .i64 0, .bool false, .string ⟨#[]⟩] 63)
  go_enter Try.func40, Try.ntmps40
  go_wp2
  exact bodyPost_ret (v := If.resV (.error 2)) (by simp [results, Try.results40, go_sem, If.resV]) rfl ⟨rfl, bw⟩
set_option maxHeartbeats 1000000 in
theorem iread_form (s : ByteArray) (h0 : 0 < s.size) (h : ¬ s[0].toNat = 7) (hs : s.size ≤ maxLen) (w : World) :
    Calls Try.prog 40 #[.string s] w fun e w' => e = .returned (If.resV (.error 3)) ∧ Below w.heap.size w w' := by
  have bw := If.below1 w (.cells #[.int .i64 0, .int .i64 0, .int .i64 0, .int .i64 0, .bool false, .string ⟨#[]⟩] 63)
  have hml : s.size ≤ 9223372036854775807 := hs
  have e0 := If.ne_nil h0
  have d1 : ((s[0].toNat : Int) == 7) = false := beq_eq_false_iff_ne.2 (by omega)
  have hb := UInt8.toNat_lt s[0]
  clear hs
  go_enter Try.func40, Try.ntmps40
  go_wp2
  exact bodyPost_ret (v := If.resV (.error 3)) (by simp [results, Try.results40, go_sem, If.resV]) rfl ⟨rfl, bw⟩
set_option maxHeartbeats 1000000 in
theorem iread_short (s : ByteArray) (h0 : 0 < s.size) (h : s[0].toNat = 7) (h6 : s.size < 6) (w : World) :
    Calls Try.prog 40 #[.string s] w fun e w' => e = .returned (If.resV (.error 2)) ∧ Below w.heap.size w w' := by
  have bw := If.below1 w (.cells #[.int .i64 0, .int .i64 0, .int .i64 0, .int .i64 0, .bool false, .string ⟨#[]⟩] 63)
  have e0 := If.ne_nil h0
  have d1 : ((s[0].toNat : Int) == 7) = true := by rw [h]; rfl
  have d2 : decide ((s.size : Int) < 6) = true := by simp; omega
  go_enter Try.func40, Try.ntmps40
  go_wp2
  exact bodyPost_ret (v := If.resV (.error 2)) (by simp [results, Try.results40, go_sem, If.resV]) rfl ⟨rfl, bw⟩
end Go.Proofs.Ytlclfkogbfigbaa

namespace Go.Proofs.Ytlclfkogbfigbaa
open Go.RowKit
set_option linter.unusedVariables false in
set_option maxHeartbeats 4000000 in
set_option maxRecDepth 100000 in
theorem iread_bad (s : ByteArray) (K N A C Z : Nat) (B : Bool) (w : World) (h6 : 6 ≤ s.size) (hml : s.size ≤ 9223372036854775807) (e0 : (s.toList == []) = false) (d1 : ((s[0].toNat : Int) == 7) = true) (d2 : decide ((s.size : Int) < 6) = false) (j6 : (6 : Int) ≤ (s.size : Int))
    (HR : Hid (∀ W, Calls Try.prog 56 #[.string s] W fun e w' => e = .returned (.tuple #[.agg #[.int .i64 K, .int .i64 N, .int .i64 A, .int .i64 C, .bool B, .string ⟨#[]⟩], .int .i64 Z]) ∧ Below W.heap.size W w'))
    (TX : ByteArray) (dT : (TX.toList == (s.extract 0 6).toList) = false) (HK : Hid (∀ W, Calls Try.prog 47 #[.int .i64 K] W fun e w' => e = .returned (.bool true) ∧ w' = W))
    (HH : Hid (∀ W, Calls Try.prog 49 #[.agg #[.int .i64 K, .int .i64 N, .int .i64 A, .int .i64 C, .bool B, .string ⟨#[]⟩], .int .i64 Z] W fun e w' => e = .returned (.string TX) ∧ Below W.heap.size W w')) :
    Calls Try.prog 40 #[.string s] w fun e w' => e = .returned (If.resV (.error 3)) ∧ Below w.heap.size w w' := by
  have bw := If.below1 w (.cells #[.int .i64 0, .int .i64 0, .int .i64 0, .int .i64 0, .bool false, .string ⟨#[]⟩] 63)
  go_enter Try.func40, Try.ntmps40
  go_upto_region 8 with (go_at_call 56; refine (HR.out _).mono ?_; rintro e w1 ⟨rfl, b1⟩)
  have k0 : Rg.Bk w.heap.size [.int .i64 0, .int .i64 0, .int .i64 0, .int .i64 0, .bool false, .string ⟨#[]⟩] 63 (w.alloc (.cells #[.int .i64 0, .int .i64 0, .int .i64 0, .int .i64 0, .bool false, .string ⟨#[]⟩] 63)) := Rg.Bk.new rfl
  have kR := (k0.below b1 k0.lt).old (.cells #[.int .i64 K, .int .i64 N, .int .i64 A, .int .i64 C, .bool B, .string ⟨#[]⟩] 63)
  have hlt : w.heap.size < w1.heap.size := Nat.lt_of_lt_of_le k0.lt b1.size
  have bR : Below w.heap.size w (w1.alloc (.cells #[.int .i64 K, .int .i64 N, .int .i64 A, .int .i64 C, .bool B, .string ⟨#[]⟩] 63)) := If.more (bw.trans (b1.mono bw.size)) _
  have kF : Rg.Bk w1.heap.size [.int .i64 K, .int .i64 N, .int .i64 A, .int .i64 C, .bool B, .string ⟨#[]⟩] 63 (w1.alloc (.cells #[.int .i64 K, .int .i64 N, .int .i64 A, .int .i64 C, .bool B, .string ⟨#[]⟩] 63)) := Rg.Bk.new rfl
  clear k0 b1 bw
  generalize w1.alloc (.cells #[.int .i64 K, .int .i64 N, .int .i64 A, .int .i64 C, .bool B, .string ⟨#[]⟩] 63) = W at *
  generalize hP : w1.heap.size = P at *
  clear hP
  have c0 := kF.cell 0; have c1 := kF.cell 1; have c2 := kF.cell 2; have c3 := kF.cell 3; have c4 := kF.cell 4; have c5 := kF.cell 5; simp only [List.getElem?_cons_zero, List.getElem?_cons_succ] at c0 c1 c2 c3 c4 c5
  go_region_held3 (fun w' => w'.cell? ⟨P, 0, none⟩ = some (.int .i64 K) ∧ w'.cell? ⟨P, 1, none⟩ = some (.int .i64 N) ∧ w'.cell? ⟨P, 2, none⟩ = some (.int .i64 A) ∧ w'.cell? ⟨P, 3, none⟩ = some (.int .i64 C) ∧ w'.cell? ⟨P, 4, none⟩ = some (.bool B) ∧ w'.cell? ⟨P, 5, none⟩ = some (.string ⟨#[]⟩)) (go_keep) (first
    | (go_at_call 47; refine (HK.out _).mono ?_; rintro e w2 ⟨rfl, rfl⟩)
    | (go_at_call 49; refine (HH.out _).mono ?_; rintro e w3 ⟨rfl, b3⟩; have kF3 := (show Rg.Bk P [.int .i64 K, .int .i64 N, .int .i64 A, .int .i64 C, .bool B, .string ⟨#[]⟩] 63 _ from (by first | exact kF | exact kF.drew)).below b3 (by exact kF.lt); have kR3 := (show Rg.Bk w.heap.size [.int .i64 0, .int .i64 0, .int .i64 0, .int .i64 0, .bool false, .string ⟨#[]⟩] 63 _ from (by first | exact kR | exact kR.drew)).below b3 (by exact kR.lt); have bR3 := bR.drew.trans (b3.mono bR.drew.size); have e0 := kF3.cell 0; have e1 := kF3.cell 1; have e2 := kF3.cell 2; have e3 := kF3.cell 3; have e4 := kF3.cell 4; have e5 := kF3.cell 5; simp only [List.getElem?_cons_zero, List.getElem?_cons_succ] at e0 e1 e2 e3 e4 e5))
  have cR := kR3.cell; have fR := kR3.thaw; have zR := kR3.lt
  have hk := Rg.ret6 kR3 rfl (.int .i64 0) (.int .i64 0) (.int .i64 0) (.int .i64 0) (.bool false) (.string ⟨#[]⟩)
  go_wp2
  clear cR fR zR
  generalize World.setCell _ _ _ = WE at *
  obtain ⟨kE, oE⟩ := hk
  have cE := kE.cell
  exact bodyPost_ret (v := If.resV (.error 3)) (by simp [results, Try.results40, go_sem, cE, If.resV]) rfl ⟨rfl, bR3.trans (oE.bel (Nat.le_refl _))⟩
end Go.Proofs.Ytlclfkogbfigbaa

namespace Go.Proofs.Ytlclfkogbfigbaa
open Go.RowKit
set_option linter.unusedVariables false in
set_option maxHeartbeats 4000000 in
set_option maxRecDepth 100000 in
theorem iread_no (s : ByteArray) (K N A C Z : Nat) (B : Bool) (w : World) (h6 : 6 ≤ s.size) (hml : s.size ≤ 9223372036854775807) (e0 : (s.toList == []) = false) (d1 : ((s[0].toNat : Int) == 7) = true) (d2 : decide ((s.size : Int) < 6) = false) (j6 : (6 : Int) ≤ (s.size : Int))
    (HR : Hid (∀ W, Calls Try.prog 56 #[.string s] W fun e w' => e = .returned (.tuple #[.agg #[.int .i64 K, .int .i64 N, .int .i64 A, .int .i64 C, .bool B, .string ⟨#[]⟩], .int .i64 Z]) ∧ Below W.heap.size W w'))
    (TX : ByteArray) (dT : (TX.toList == (s.extract 0 6).toList) = true) (HK : Hid (∀ W, Calls Try.prog 47 #[.int .i64 K] W fun e w' => e = .returned (.bool true) ∧ w' = W))
    (HH : Hid (∀ W, Calls Try.prog 49 #[.agg #[.int .i64 K, .int .i64 N, .int .i64 A, .int .i64 C, .bool B, .string ⟨#[]⟩], .int .i64 Z] W fun e w' => e = .returned (.string TX) ∧ Below W.heap.size W w'))
    (D : ByteArray) (E : Nat) (HB : Hid (∀ W, Calls Try.prog 57 #[.string (s.extract 6 s.size), .int .i64 Z] W fun e w' => e = .returned (.tuple #[.string D, .int .i64 E]) ∧ Below W.heap.size W w'))
    (hE : ((E : Int) == 0) = false) :
    Calls Try.prog 40 #[.string s] w fun e w' => e = .returned (If.resV (.error E)) ∧ Below w.heap.size w w' := by
  have bw := If.below1 w (.cells #[.int .i64 0, .int .i64 0, .int .i64 0, .int .i64 0, .bool false, .string ⟨#[]⟩] 63)
  go_enter Try.func40, Try.ntmps40
  go_upto_region 8 with (go_at_call 56; refine (HR.out _).mono ?_; rintro e w1 ⟨rfl, b1⟩)
  have k0 : Rg.Bk w.heap.size [.int .i64 0, .int .i64 0, .int .i64 0, .int .i64 0, .bool false, .string ⟨#[]⟩] 63 (w.alloc (.cells #[.int .i64 0, .int .i64 0, .int .i64 0, .int .i64 0, .bool false, .string ⟨#[]⟩] 63)) := Rg.Bk.new rfl
  have kR := (k0.below b1 k0.lt).old (.cells #[.int .i64 K, .int .i64 N, .int .i64 A, .int .i64 C, .bool B, .string ⟨#[]⟩] 63)
  have hlt : w.heap.size < w1.heap.size := Nat.lt_of_lt_of_le k0.lt b1.size
  have bR : Below w.heap.size w (w1.alloc (.cells #[.int .i64 K, .int .i64 N, .int .i64 A, .int .i64 C, .bool B, .string ⟨#[]⟩] 63)) := If.more (bw.trans (b1.mono bw.size)) _
  have kF : Rg.Bk w1.heap.size [.int .i64 K, .int .i64 N, .int .i64 A, .int .i64 C, .bool B, .string ⟨#[]⟩] 63 (w1.alloc (.cells #[.int .i64 K, .int .i64 N, .int .i64 A, .int .i64 C, .bool B, .string ⟨#[]⟩] 63)) := Rg.Bk.new rfl
  clear k0 b1 bw
  generalize w1.alloc (.cells #[.int .i64 K, .int .i64 N, .int .i64 A, .int .i64 C, .bool B, .string ⟨#[]⟩] 63) = W at *
  generalize hP : w1.heap.size = P at *
  clear hP
  have c0 := kF.cell 0; have c1 := kF.cell 1; have c2 := kF.cell 2; have c3 := kF.cell 3; have c4 := kF.cell 4; have c5 := kF.cell 5; simp only [List.getElem?_cons_zero, List.getElem?_cons_succ] at c0 c1 c2 c3 c4 c5
  go_region_held3 (fun w' => w'.cell? ⟨P, 0, none⟩ = some (.int .i64 K) ∧ w'.cell? ⟨P, 1, none⟩ = some (.int .i64 N) ∧ w'.cell? ⟨P, 2, none⟩ = some (.int .i64 A) ∧ w'.cell? ⟨P, 3, none⟩ = some (.int .i64 C) ∧ w'.cell? ⟨P, 4, none⟩ = some (.bool B) ∧ w'.cell? ⟨P, 5, none⟩ = some (.string ⟨#[]⟩)) (go_keep) (first
    | (go_at_call 47; refine (HK.out _).mono ?_; rintro e w2 ⟨rfl, rfl⟩)
    | (go_at_call 49; refine (HH.out _).mono ?_; rintro e w3 ⟨rfl, b3⟩; have kF3 := (show Rg.Bk P [.int .i64 K, .int .i64 N, .int .i64 A, .int .i64 C, .bool B, .string ⟨#[]⟩] 63 _ from (by first | exact kF | exact kF.drew)).below b3 (by exact kF.lt); have kR3 := (show Rg.Bk w.heap.size [.int .i64 0, .int .i64 0, .int .i64 0, .int .i64 0, .bool false, .string ⟨#[]⟩] 63 _ from (by first | exact kR | exact kR.drew)).below b3 (by exact kR.lt); have bR3 := bR.drew.trans (b3.mono bR.drew.size); have e0 := kF3.cell 0; have e1 := kF3.cell 1; have e2 := kF3.cell 2; have e3 := kF3.cell 3; have e4 := kF3.cell 4; have e5 := kF3.cell 5; simp only [List.getElem?_cons_zero, List.getElem?_cons_succ] at e0 e1 e2 e3 e4 e5))
  clear e0 e1 e2 e3 e4 e5 c0 c1 c2 c3 c4 c5
  go_upto_region 12 with (go_at_call 57; refine (HB.out _).mono ?_; rintro e w4 ⟨rfl, b4⟩; have kF4 := (show Rg.Bk P [.int .i64 K, .int .i64 N, .int .i64 A, .int .i64 C, .bool B, .string ⟨#[]⟩] 63 _ from (by first | exact kF3 | exact kF3.drew)).below b4 (by exact kF3.lt); have kR4 := (show Rg.Bk w.heap.size [.int .i64 0, .int .i64 0, .int .i64 0, .int .i64 0, .bool false, .string ⟨#[]⟩] 63 _ from (by first | exact kR3 | exact kR3.drew)).below b4 (by exact kR3.lt); have bR4 := (show Below w.heap.size w _ from (by first | exact bR3 | exact bR3.drew)).trans (b4.mono (by first | exact bR3.size | exact bR3.drew.size)); have cF := kF4.cell; have fF := kF4.thaw; have zF := kF4.lt)
  have kF5 : Rg.Bk P [.int .i64 K, .int .i64 N, .int .i64 A, .int .i64 C, .bool B, .string D] 63 _ := kF4.set 5 (.string D)
  have kR5 := kR4.other (c := P) (i := 5) (by omega) (.string D)
  have bR5 := bR4.setCell (p := ⟨P, 5, none⟩) (show w.heap.size ≤ P by omega) (.string D)
  clear cF fF zF
  generalize World.setCell _ _ _ = w5 at *
  have cR := kR5.cell; have fR := kR5.thaw; have zR := kR5.lt
  have hk := Rg.ret6 kR5 rfl (.int .i64 0) (.int .i64 0) (.int .i64 0) (.int .i64 0) (.bool false) (.string ⟨#[]⟩)
  go_wp2
  clear cR fR zR
  generalize World.setCell _ _ _ = WE at *
  obtain ⟨kE, oE⟩ := hk
  have cE := kE.cell
  exact bodyPost_ret (v := If.resV (.error E)) (by simp [results, Try.results40, go_sem, cE, If.resV]) rfl ⟨rfl, bR5.trans (oE.bel (Nat.le_refl _))⟩
end Go.Proofs.Ytlclfkogbfigbaa

namespace Go.Proofs.Ytlclfkogbfigbaa
open Go.RowKit
set_option linter.unusedVariables false in
set_option maxHeartbeats 4000000 in
set_option maxRecDepth 100000 in
theorem iread_ok (s : ByteArray) (K N A C Z : Nat) (B : Bool) (w : World) (h6 : 6 ≤ s.size) (hml : s.size ≤ 9223372036854775807) (e0 : (s.toList == []) = false) (d1 : ((s[0].toNat : Int) == 7) = true) (d2 : decide ((s.size : Int) < 6) = false) (j6 : (6 : Int) ≤ (s.size : Int))
    (HR : Hid (∀ W, Calls Try.prog 56 #[.string s] W fun e w' => e = .returned (.tuple #[.agg #[.int .i64 K, .int .i64 N, .int .i64 A, .int .i64 C, .bool B, .string ⟨#[]⟩], .int .i64 Z]) ∧ Below W.heap.size W w'))
    (TX : ByteArray) (dT : (TX.toList == (s.extract 0 6).toList) = true) (HK : Hid (∀ W, Calls Try.prog 47 #[.int .i64 K] W fun e w' => e = .returned (.bool true) ∧ w' = W))
    (HH : Hid (∀ W, Calls Try.prog 49 #[.agg #[.int .i64 K, .int .i64 N, .int .i64 A, .int .i64 C, .bool B, .string ⟨#[]⟩], .int .i64 Z] W fun e w' => e = .returned (.string TX) ∧ Below W.heap.size W w'))
    (D : ByteArray)  (HB : Hid (∀ W, Calls Try.prog 57 #[.string (s.extract 6 s.size), .int .i64 Z] W fun e w' => e = .returned (.tuple #[.string D, .int .i64 0]) ∧ Below W.heap.size W w'))
    (Q R : Nat) (hQ : Q ≤ 5000) (hR : IntKind.i64.wrap (6 + (Q : Int)) = (R : Int)) (hR' : wrap64 (6 + (Q : Int)) = (R : Int)) (HZ : Hid (∀ W, Calls Try.prog 58 #[.int .i64 Z] W fun e w' => e = .returned (.int .i64 Q) ∧ w' = W)) :
    Calls Try.prog 40 #[.string s] w fun e w' => e = .returned (If.resV (.ok (⟨K, N, A, C, B, D.data.toList⟩, R))) ∧ Below w.heap.size w w' := by
  have bw := If.below1 w (.cells #[.int .i64 0, .int .i64 0, .int .i64 0, .int .i64 0, .bool false, .string ⟨#[]⟩] 63)
  go_enter Try.func40, Try.ntmps40
  go_upto_region 8 with (go_at_call 56; refine (HR.out _).mono ?_; rintro e w1 ⟨rfl, b1⟩)
  have k0 : Rg.Bk w.heap.size [.int .i64 0, .int .i64 0, .int .i64 0, .int .i64 0, .bool false, .string ⟨#[]⟩] 63 (w.alloc (.cells #[.int .i64 0, .int .i64 0, .int .i64 0, .int .i64 0, .bool false, .string ⟨#[]⟩] 63)) := Rg.Bk.new rfl
  have kR := (k0.below b1 k0.lt).old (.cells #[.int .i64 K, .int .i64 N, .int .i64 A, .int .i64 C, .bool B, .string ⟨#[]⟩] 63)
  have hlt : w.heap.size < w1.heap.size := Nat.lt_of_lt_of_le k0.lt b1.size
  have bR : Below w.heap.size w (w1.alloc (.cells #[.int .i64 K, .int .i64 N, .int .i64 A, .int .i64 C, .bool B, .string ⟨#[]⟩] 63)) := If.more (bw.trans (b1.mono bw.size)) _
  have kF : Rg.Bk w1.heap.size [.int .i64 K, .int .i64 N, .int .i64 A, .int .i64 C, .bool B, .string ⟨#[]⟩] 63 (w1.alloc (.cells #[.int .i64 K, .int .i64 N, .int .i64 A, .int .i64 C, .bool B, .string ⟨#[]⟩] 63)) := Rg.Bk.new rfl
  clear k0 b1 bw
  generalize w1.alloc (.cells #[.int .i64 K, .int .i64 N, .int .i64 A, .int .i64 C, .bool B, .string ⟨#[]⟩] 63) = W at *
  generalize hP : w1.heap.size = P at *
  clear hP
  have c0 := kF.cell 0; have c1 := kF.cell 1; have c2 := kF.cell 2; have c3 := kF.cell 3; have c4 := kF.cell 4; have c5 := kF.cell 5; simp only [List.getElem?_cons_zero, List.getElem?_cons_succ] at c0 c1 c2 c3 c4 c5
  go_region_held3 (fun w' => w'.cell? ⟨P, 0, none⟩ = some (.int .i64 K) ∧ w'.cell? ⟨P, 1, none⟩ = some (.int .i64 N) ∧ w'.cell? ⟨P, 2, none⟩ = some (.int .i64 A) ∧ w'.cell? ⟨P, 3, none⟩ = some (.int .i64 C) ∧ w'.cell? ⟨P, 4, none⟩ = some (.bool B) ∧ w'.cell? ⟨P, 5, none⟩ = some (.string ⟨#[]⟩)) (go_keep) (first
    | (go_at_call 47; refine (HK.out _).mono ?_; rintro e w2 ⟨rfl, rfl⟩)
    | (go_at_call 49; refine (HH.out _).mono ?_; rintro e w3 ⟨rfl, b3⟩; have kF3 := (show Rg.Bk P [.int .i64 K, .int .i64 N, .int .i64 A, .int .i64 C, .bool B, .string ⟨#[]⟩] 63 _ from (by first | exact kF | exact kF.drew)).below b3 (by exact kF.lt); have kR3 := (show Rg.Bk w.heap.size [.int .i64 0, .int .i64 0, .int .i64 0, .int .i64 0, .bool false, .string ⟨#[]⟩] 63 _ from (by first | exact kR | exact kR.drew)).below b3 (by exact kR.lt); have bR3 := bR.drew.trans (b3.mono bR.drew.size); have e0 := kF3.cell 0; have e1 := kF3.cell 1; have e2 := kF3.cell 2; have e3 := kF3.cell 3; have e4 := kF3.cell 4; have e5 := kF3.cell 5; simp only [List.getElem?_cons_zero, List.getElem?_cons_succ] at e0 e1 e2 e3 e4 e5))
  clear e0 e1 e2 e3 e4 e5 c0 c1 c2 c3 c4 c5
  go_upto_region 12 with (go_at_call 57; refine (HB.out _).mono ?_; rintro e w4 ⟨rfl, b4⟩; have kF4 := (show Rg.Bk P [.int .i64 K, .int .i64 N, .int .i64 A, .int .i64 C, .bool B, .string ⟨#[]⟩] 63 _ from (by first | exact kF3 | exact kF3.drew)).below b4 (by exact kF3.lt); have kR4 := (show Rg.Bk w.heap.size [.int .i64 0, .int .i64 0, .int .i64 0, .int .i64 0, .bool false, .string ⟨#[]⟩] 63 _ from (by first | exact kR3 | exact kR3.drew)).below b4 (by exact kR3.lt); have bR4 := (show Below w.heap.size w _ from (by first | exact bR3 | exact bR3.drew)).trans (b4.mono (by first | exact bR3.size | exact bR3.drew.size)); have cF := kF4.cell; have fF := kF4.thaw; have zF := kF4.lt)
  have kF5 : Rg.Bk P [.int .i64 K, .int .i64 N, .int .i64 A, .int .i64 C, .bool B, .string D] 63 _ := kF4.set 5 (.string D)
  have kR5 := kR4.other (c := P) (i := 5) (by omega) (.string D)
  have bR5 := bR4.setCell (p := ⟨P, 5, none⟩) (show w.heap.size ≤ P by omega) (.string D)
  clear cF fF zF
  generalize World.setCell _ _ _ = w5 at *
  have cR := kR5.cell; have fR := kR5.thaw; have zR := kR5.lt
  have p0 := kF5.cell 0; have p1 := kF5.cell 1; have p2 := kF5.cell 2; have p3 := kF5.cell 3; have p4 := kF5.cell 4; have p5 := kF5.cell 5; simp only [List.getElem?_cons_zero, List.getElem?_cons_succ] at p0 p1 p2 p3 p4 p5
  have hk := Rg.ret6 kR5 rfl (.int .i64 K) (.int .i64 N) (.int .i64 A) (.int .i64 C) (.bool B) (.string D)
  go_upto_region 14 with fail
  go_region_with (go_at_call 58; refine (HZ.out _).mono ?_; rintro e w6 ⟨rfl, rfl⟩)
  all_goals
    go_wp2
    clear cR fR zR p0 p1 p2 p3 p4 p5
    generalize World.setCell _ _ _ = WE at *
    obtain ⟨kE, oE⟩ := hk
    have cE := kE.drew.cell
    exact bodyPost_ret (v := If.resV (.ok (⟨K, N, A, C, B, D.data.toList⟩, R))) (by simp [results, Try.results40, go_sem, cE, If.resV, Act.put]) rfl ⟨rfl, (bR5.trans (oE.bel (Nat.le_refl _))).drew⟩
end Go.Proofs.Ytlclfkogbfigbaa

namespace Go.Proofs.Ytlclfkogbfigbaa
open Go.RowKit
set_option linter.unusedSimpArgs false in
set_option linter.unusedVariables false in
set_option maxHeartbeats 4000000 in
set_option maxRecDepth 100000 in
theorem iread_kind (s : ByteArray) (K N A C Z : Nat) (B : Bool) (w : World) (h6 : 6 ≤ s.size) (hml : s.size ≤ 9223372036854775807) (e0 : (s.toList == []) = false) (d1 : ((s[0].toNat : Int) == 7) = true) (d2 : decide ((s.size : Int) < 6) = false) (j6 : (6 : Int) ≤ (s.size : Int))
    (HR : Hid (∀ W, Calls Try.prog 56 #[.string s] W fun e w' => e = .returned (.tuple #[.agg #[.int .i64 K, .int .i64 N, .int .i64 A, .int .i64 C, .bool B, .string ⟨#[]⟩], .int .i64 Z]) ∧ Below W.heap.size W w'))
    (HK : Hid (∀ W, Calls Try.prog 47 #[.int .i64 K] W fun e w' => e = .returned (.bool false) ∧ w' = W)) :
    Calls Try.prog 40 #[.string s] w fun e w' => e = .returned (If.resV (.error 3)) ∧ Below w.heap.size w w' := by
  have bw := If.below1 w (.cells #[.int .i64 0, .int .i64 0, .int .i64 0, .int .i64 0, .bool false, .string ⟨#[]⟩] 63)
  go_enter Try.func40, Try.ntmps40
  go_upto_region 8 with (go_at_call 56; refine (HR.out _).mono ?_; rintro e w1 ⟨rfl, b1⟩)
  have k0 : Rg.Bk w.heap.size [.int .i64 0, .int .i64 0, .int .i64 0, .int .i64 0, .bool false, .string ⟨#[]⟩] 63 (w.alloc (.cells #[.int .i64 0, .int .i64 0, .int .i64 0, .int .i64 0, .bool false, .string ⟨#[]⟩] 63)) := Rg.Bk.new rfl
  have kR := (k0.below b1 k0.lt).old (.cells #[.int .i64 K, .int .i64 N, .int .i64 A, .int .i64 C, .bool B, .string ⟨#[]⟩] 63)
  have hlt : w.heap.size < w1.heap.size := Nat.lt_of_lt_of_le k0.lt b1.size
  have bR : Below w.heap.size w (w1.alloc (.cells #[.int .i64 K, .int .i64 N, .int .i64 A, .int .i64 C, .bool B, .string ⟨#[]⟩] 63)) := If.more (bw.trans (b1.mono bw.size)) _
  have kF : Rg.Bk w1.heap.size [.int .i64 K, .int .i64 N, .int .i64 A, .int .i64 C, .bool B, .string ⟨#[]⟩] 63 (w1.alloc (.cells #[.int .i64 K, .int .i64 N, .int .i64 A, .int .i64 C, .bool B, .string ⟨#[]⟩] 63)) := Rg.Bk.new rfl
  clear k0 b1 bw
  generalize w1.alloc (.cells #[.int .i64 K, .int .i64 N, .int .i64 A, .int .i64 C, .bool B, .string ⟨#[]⟩] 63) = W at *
  generalize hP : w1.heap.size = P at *
  clear hP
  have c0 := kF.cell 0; have c1 := kF.cell 1; have c2 := kF.cell 2; have c3 := kF.cell 3; have c4 := kF.cell 4; have c5 := kF.cell 5; simp only [List.getElem?_cons_zero, List.getElem?_cons_succ] at c0 c1 c2 c3 c4 c5
  refine wp_region_held_drew (S := (fun w' => w'.cell? ⟨P, 0, none⟩ = some (.int .i64 K))) (by kernel_rfl) ?_ (fun hH0 => ?_)
  · go_keep
  refine wpAnyH_take (i := 0) (oi := { dst := some 24, op := _, type := _, pos := _, after := _, guard := _ }) (v := ?_) rfl (by kernel_rfl) (by kernel_rfl) (by kernel_rfl) (fun _ _ _ h => h) (Or.inl ⟨by rfl, ?_⟩) (by assumption) ?_
  rotate_left
  · (intro w hSw; (try dsimp only at hSw); go_simp); (try with_reducible rfl)
  simp only [Act.put, List.setIfInBounds_toArray, List.set_cons_zero, List.set_cons_succ]
  refine wpAnyH_take (i := 1) (oi := { dst := some 25, op := _, type := _, pos := _, after := _, guard := _ }) (v := ?_) rfl (by kernel_rfl) (by kernel_rfl) (by kernel_rfl) (fun _ _ _ h => h) (Or.inl ⟨by rfl, ?_⟩) (by assumption) ?_
  rotate_left
  · (intro w hSw; (try dsimp only at hSw); go_simp); (try with_reducible rfl)
  simp only [Act.put, List.setIfInBounds_toArray, List.set_cons_zero, List.set_cons_succ]
  refine wpAnyH_ready (rs := [2]) (by kernel_rfl) (by simp) ?_
  refine AllReadyH.cons (o := { dst := some 26, op := _, type := _, pos := _, after := _, guard := _ }) rfl (fun KK hK => ?_) AllReadyH.nil
  go_simp
  go_at_call 47; refine (HK.out _).mono ?_; rintro e w2 ⟨rfl, rfl⟩
  refine hK.out _ _ ?_ (fun hH2 => ?_)
  · go_keep
  clear hK KK hH0
  refine wpAnyH_take (i := 3) (oi := { dst := some 27, op := _, type := _, pos := _, after := _, guard := _ }) (v := ?_) rfl (by kernel_rfl) (by kernel_rfl) (by kernel_rfl) (fun _ _ _ h => h) (Or.inl ⟨by rfl, ?_⟩) (by assumption) ?_
  rotate_left
  · (intro w hSw; (try dsimp only at hSw); go_simp); (try with_reducible rfl)
  simp only [Act.put, List.setIfInBounds_toArray, List.set_cons_zero, List.set_cons_succ]
  refine wpAnyH_take (i := 4) (oi := { dst := some 28, op := _, type := _, pos := _, after := _, guard := _ }) (v := ?_) rfl (by kernel_rfl) (by kernel_rfl) (by kernel_rfl) (fun _ _ _ h => h) (Or.inl ⟨by rfl, ?_⟩) (by assumption) ?_
  rotate_left
  · (intro w hSw; (try dsimp only at hSw); go_simp); (try with_reducible rfl)
  simp only [Act.put, List.setIfInBounds_toArray, List.set_cons_zero, List.set_cons_succ]
  refine wpAnyH_take (i := 5) (oi := { dst := some 29, op := _, type := _, pos := _, after := _, guard := _ }) (v := undef) rfl (by kernel_rfl) (by kernel_rfl) (by kernel_rfl) (fun _ _ _ h => h) (Or.inr ⟨by rfl, rfl⟩) (by assumption) ?_
  simp only [Act.put, List.setIfInBounds_toArray, List.set_cons_zero, List.set_cons_succ]
  refine wpAnyH_take (i := 6) (oi := { dst := some 30, op := _, type := _, pos := _, after := _, guard := _ }) (v := undef) rfl (by kernel_rfl) (by kernel_rfl) (by kernel_rfl) (fun _ _ _ h => h) (Or.inr ⟨by rfl, rfl⟩) (by assumption) ?_
  simp only [Act.put, List.setIfInBounds_toArray, List.set_cons_zero, List.set_cons_succ]
  refine wpAnyH_take (i := 7) (oi := { dst := some 31, op := _, type := _, pos := _, after := _, guard := _ }) (v := undef) rfl (by kernel_rfl) (by kernel_rfl) (by kernel_rfl) (fun _ _ _ h => h) (Or.inr ⟨by rfl, rfl⟩) (by assumption) ?_
  simp only [Act.put, List.setIfInBounds_toArray, List.set_cons_zero, List.set_cons_succ]
  refine wpAnyH_take (i := 8) (oi := { dst := some 32, op := _, type := _, pos := _, after := _, guard := _ }) (v := undef) rfl (by kernel_rfl) (by kernel_rfl) (by kernel_rfl) (fun _ _ _ h => h) (Or.inr ⟨by rfl, rfl⟩) (by assumption) ?_
  simp only [Act.put, List.setIfInBounds_toArray, List.set_cons_zero, List.set_cons_succ]
  refine wpAnyH_take (i := 9) (oi := { dst := some 33, op := _, type := _, pos := _, after := _, guard := _ }) (v := undef) rfl (by kernel_rfl) (by kernel_rfl) (by kernel_rfl) (fun _ _ _ h => h) (Or.inr ⟨by rfl, rfl⟩) (by assumption) ?_
  simp only [Act.put, List.setIfInBounds_toArray, List.set_cons_zero, List.set_cons_succ]
  refine wpAnyH_take (i := 10) (oi := { dst := some 34, op := _, type := _, pos := _, after := _, guard := _ }) (v := undef) rfl (by kernel_rfl) (by kernel_rfl) (by kernel_rfl) (fun _ _ _ h => h) (Or.inr ⟨by rfl, rfl⟩) (by assumption) ?_
  simp only [Act.put, List.setIfInBounds_toArray, List.set_cons_zero, List.set_cons_succ]
  refine wpAnyH_take (i := 11) (oi := { dst := some 35, op := _, type := _, pos := _, after := _, guard := _ }) (v := ?_) rfl (by kernel_rfl) (by kernel_rfl) (by kernel_rfl) (fun _ _ _ h => h) (Or.inl ⟨by rfl, ?_⟩) (by assumption) ?_
  rotate_left
  · (intro w hSw; (try dsimp only at hSw); go_simp); (try with_reducible rfl)
  simp only [Act.put, List.setIfInBounds_toArray, List.set_cons_zero, List.set_cons_succ]
  refine wpAnyH_done (by kernel_rfl) ?_ _
  have cR := kR.cell; have fR := kR.thaw; have zR := kR.lt
  have hk := Rg.ret6 kR rfl (.int .i64 0) (.int .i64 0) (.int .i64 0) (.int .i64 0) (.bool false) (.string ⟨#[]⟩)
  go_wp2
  clear cR fR zR
  generalize World.setCell _ _ _ = WE at *
  obtain ⟨kE, oE⟩ := hk
  have cE := kE.drew.cell
  exact bodyPost_ret (v := If.resV (.error 3)) (by simp [results, Try.results40, go_sem, cE, If.resV]) rfl ⟨rfl, by first | exact bR.trans (oE.bel (Nat.le_refl _)) | exact (bR.trans (oE.bel (Nat.le_refl _))).drew⟩
end Go.Proofs.Ytlclfkogbfigbaa

namespace Go.Proofs.Ytlclfkogbfigbaa
open Go.RowKit
namespace If
theorem six (s : ByteArray) (h : 6 ≤ s.size) : s.data.toList = s[0] :: s[1] :: s[2] :: s[3] :: s[4] :: s[5] :: s.data.toList.drop 6 := by
  have e : ∀ k (hk : k < s.size), s.data.toList.drop k = s[k] :: s.data.toList.drop (k + 1) := fun k hk => by
    rw [List.drop_eq_getElem_cons (by rw [len_eq]; exact hk)]; rfl
  have e0 := e 0 (by omega)
  rw [List.drop_zero] at e0
  rw [e0, e 1 (by omega), e 2 (by omega), e 3 (by omega), e 4 (by omega), e 5 (by omega)]
  rfl
theorem read_six (s : ByteArray) (h : 6 ≤ s.size) (h7 : s[0] = 7) : read s.data.toList = readHead s[1].toNat s[2].toNat s[3].toNat s[4].toNat s[5].toNat (s.data.toList.drop 6) := by
  rw [six s h, h7]
  unfold read
  dsimp only
  rw [if_neg (by decide)]
  rfl
theorem head_test (s : ByteArray) (h : 6 ≤ s.size) (h7 : s[0] = 7) :
    ((⟨(hd (s[3].toNat / 32) (s[1].toNat / 8) (s[2].toNat / 8) (s[1].toNat % 8) (decide (s[3].toNat / 16 % 2 = 1)) (s[3].toNat % 16 * 256 + s[4].toNat)).toArray⟩ : ByteArray).toList == (s.extract 0 6).toList) = decide ((s[1].toNat ^^^ s[2].toNat ^^^ s[3].toNat ^^^ s[4].toNat) = s[5].toNat ∧ s[1].toNat % 8 = s[2].toNat % 8) := by
  have b1 := UInt8.toNat_lt s[1]
  have b2 := UInt8.toNat_lt s[2]
  have b3 := UInt8.toNat_lt s[3]
  have b4 := UInt8.toNat_lt s[4]
  rw [tl_eq, tl_eq, extract_eq s 0 6 (by omega) h, List.drop_zero, six s h, h7]
  generalize s[1] = a at *
  generalize s[2] = b at *
  generalize s[3] = c at *
  generalize s[4] = d at *
  generalize s[5] = e at *
  generalize s.data.toList.drop 6 = r
  have hbit : bit (decide (c.toNat / 16 % 2 = 1)) = c.toNat / 16 % 2 * 16 := by
    unfold bit
    rcases Nat.mod_two_eq_zero_or_one (c.toNat / 16) with q | q
    · rw [q]; rfl
    · rw [q]; rfl
  unfold hd
  rw [hbit, show a.toNat / 8 * 8 + a.toNat % 8 = a.toNat by omega, show c.toNat / 32 * 32 + c.toNat / 16 % 2 * 16 + (c.toNat % 16 * 256 + d.toNat) / 256 = c.toNat by omega, show (c.toNat % 16 * 256 + d.toNat) % 256 = d.toNat by omega]
  unfold head
  show ([7, UInt8.ofNat a.toNat, UInt8.ofNat (b.toNat / 8 * 8 + a.toNat % 8), UInt8.ofNat c.toNat, UInt8.ofNat d.toNat, UInt8.ofNat (a.toNat ^^^ (b.toNat / 8 * 8 + a.toNat % 8) ^^^ c.toNat ^^^ d.toNat)] == [7, a, b, c, d, e]) = _
  rw [byte_eq, byte_eq, byte_eq]
  by_cases hc : a.toNat % 8 = b.toNat % 8
  · rw [show b.toNat / 8 * 8 + a.toNat % 8 = b.toNat by omega, byte_eq]
    have hx := xor_byte b1 b2 b3 b4
    by_cases hx2 : (a.toNat ^^^ b.toNat ^^^ c.toNat ^^^ d.toNat) = e.toNat
    · rw [hx2, byte_eq, decide_eq_true ⟨rfl, hc⟩]
      exact beq_iff_eq.2 rfl
    · rw [decide_eq_false fun q => hx2 q.1]
      apply beq_eq_false_iff_ne.2
      intro q
      simp only [List.cons.injEq, true_and, and_true] at q
      exact hx2 (by rw [← q, ofNat_toNat hx])
  · rw [decide_eq_false fun q => hc q.2]
    apply beq_eq_false_iff_ne.2
    intro q
    simp only [List.cons.injEq, true_and, and_true] at q
    have := congrArg UInt8.toNat q.1
    rw [ofNat_toNat (by omega)] at this
    omega
theorem readBody_rb (a b c n : Nat) (r : List UInt8) : readBody a b c n r = if (rb n r).2 = 0 then .ok (⟨(c / 32 : Nat), (a / 8 : Nat), (b / 8 : Nat), (a % 8 : Nat), decide (c / 16 % 2 = 1), (rb n r).1⟩, 6 + bsz n) else .error (rb n r).2 := by
  unfold readBody rb
  split
  · rfl
  · split
    · rfl
    · rfl
theorem drop_extract (s : ByteArray) (h6 : 6 ≤ s.size) : (s.extract 6 s.size).data.toList = s.data.toList.drop 6 := by
  rw [extract_eq s 6 s.size h6 (Nat.le_refl _), List.take_of_length_le]
  rw [List.length_drop, len_eq]; exact Nat.le_refl _
end If
set_option maxRecDepth 100000 in
theorem iread_any (s : ByteArray) (hs : s.size ≤ maxLen) (w : World) :
    Calls Try.prog 40 #[.string s] w fun e w' => e = .returned (If.resV (If.read s.data.toList)) ∧ Below w.heap.size w w' := by
  by_cases h0 : s.size = 0
  · obtain rfl := If.empty_of h0
    exact iread_empty w
  have h0 : 0 < s.size := by omega
  by_cases h7 : s[0].toNat = 7
  · have e7 : s[0] = 7 := UInt8.toNat_inj.1 h7
    by_cases h6 : s.size < 6
    · rw [If.read_few (by rw [If.len_eq]; exact h6) (Or.inr (by rw [If.getD_at s 0 h0]; exact e7))]
      exact iread_short s h0 h7 h6 w
    have h6 : 6 ≤ s.size := by omega
    rw [If.read_six s h6 e7]
    have b1 := UInt8.toNat_lt s[1]
    have b2 := UInt8.toNat_lt s[2]
    have b3 := UInt8.toNat_lt s[3]
    have b4 := UInt8.toNat_lt s[4]
    have HR := fun W => rhead_any s h6 hs W
    have HK := fun W => isKind_any (s[3].toNat / 32 : Nat) W
    have q1 := If.ne_nil h0
    have q2 : ((s[0].toNat : Int) == 7) = true := by rw [h7]; rfl
    have q3 : decide ((s.size : Int) < 6) = false := by simp; omega
    have q4 : (6 : Int) ≤ (s.size : Int) := by omega
    cases hk : If.kind (s[3].toNat / 32 : Nat) with
    | false =>
      rw [hk] at HK
      have e : If.readHead s[1].toNat s[2].toNat s[3].toNat s[4].toNat s[5].toNat (s.data.toList.drop 6) = .error 3 := by
        unfold If.readHead; rw [if_pos (Or.inr (Or.inl hk))]
      rw [e]
      exact iread_kind s _ _ _ _ _ _ w h6 hs q1 q2 q3 q4 HR HK
    | true =>
      rw [hk] at HK
      have HH := fun W => head_any (s[3].toNat / 32) (s[1].toNat / 8) (s[2].toNat / 8) (s[1].toNat % 8) (s[3].toNat % 16 * 256 + s[4].toNat) (decide (s[3].toNat / 16 % 2 = 1)) ⟨#[]⟩ (by omega) (by omega) (by omega) (by omega) (by omega) W
      have ht := If.head_test s h6 e7
      by_cases hx : (s[1].toNat ^^^ s[2].toNat ^^^ s[3].toNat ^^^ s[4].toNat) = s[5].toNat ∧ s[1].toNat % 8 = s[2].toNat % 8
      · rw [decide_eq_true hx] at ht
        have e : If.readHead s[1].toNat s[2].toNat s[3].toNat s[4].toNat s[5].toNat (s.data.toList.drop 6) = If.readBody s[1].toNat s[2].toNat s[3].toNat (s[3].toNat % 16 * 256 + s[4].toNat) (s.data.toList.drop 6) := by
          unfold If.readHead; rw [if_neg (by rw [hk]; simp [hx.1, hx.2])]
        rw [e, If.readBody_rb, ← If.drop_extract s h6]
        have HB := fun W => rbody_any (s.extract 6 s.size) (s[3].toNat % 16 * 256 + s[4].toNat) (by omega) W
        generalize hz : s[3].toNat % 16 * 256 + s[4].toNat = z at *
        have hzb := If.bsz_le z
        obtain ⟨D, E, hrb⟩ : ∃ D E, If.rb z (s.extract 6 s.size).data.toList = (D, E) := ⟨_, _, rfl⟩
        rw [hrb] at HB ⊢
        dsimp only at HB ⊢
        by_cases hE : E = 0
        · subst hE
          rw [if_pos rfl]
          have HZ := fun W => bodySize_any z (by omega) W
          exact iread_ok s _ _ _ _ _ _ w h6 hs q1 q2 q3 q4 HR _ ht HK HH ⟨D.toArray⟩ HB (If.bsz z) (6 + If.bsz z) (by omega) (by rw [IntKind.wrap_i64]; omega) (by unfold wrap64; omega) HZ
        · rw [if_neg hE]
          exact iread_no s _ _ _ _ _ _ w h6 hs q1 q2 q3 q4 HR _ ht HK HH ⟨D.toArray⟩ E HB (beq_eq_false_iff_ne.2 (by omega))
      · rw [decide_eq_false hx] at ht
        have e : If.readHead s[1].toNat s[2].toNat s[3].toNat s[4].toNat s[5].toNat (s.data.toList.drop 6) = .error 3 := by
          unfold If.readHead
          rw [if_pos]
          by_cases hx1 : (s[1].toNat ^^^ s[2].toNat ^^^ s[3].toNat ^^^ s[4].toNat) = s[5].toNat
          · exact Or.inr (Or.inr fun q => hx ⟨hx1, q⟩)
          · exact Or.inl hx1
        rw [e]
        exact iread_bad s _ _ _ _ _ _ w h6 hs q1 q2 q3 q4 HR _ ht HK HH
  · have e : s.data.toList = s[0] :: s.data.toList.drop 1 := by
      have := List.drop_eq_getElem_cons (l := s.data.toList) (i := 0) (by rw [If.len_eq]; exact h0)
      rw [List.drop_zero] at this
      exact this
    rw [e, If.read_7 (fun h => h7 (by rw [h]; rfl))]
    exact iread_form s h0 h7 hs w
end Go.Proofs.Ytlclfkogbfigbaa
