/-
  Walks of layer 12: Read of a packet.
-/
import Derived.Test.YtghelhcmecmldaaIf7
namespace Go.Proofs.Ytghelhcmecmldaa
open Go.RowKit
set_option linter.unusedVariables false in
set_option maxHeartbeats 4000000 in
set_option maxRecDepth 100000 in
theorem iread_ok (s : ByteArray) (K N A C Z : Nat) (B : Bool) (w : World) (h6 : 6 ≤ s.size) (hml : s.size ≤ 9223372036854775807) (e0 : (s.toList == []) = false) (d1 : ((s[0].toNat : Int) == 7) = true) (d2 : decide ((s.size : Int) < 6) = false) (j6 : (6 : Int) ≤ (s.size : Int))
    (HR : Hid (∀ W, Calls Try.prog 23 #[.string s] W fun e w' => e = .returned (.tuple #[.agg #[.int .i64 K, .int .i64 N, .int .i64 A, .int .i64 C, .bool B, .string ⟨#[]⟩], .int .i64 Z]) ∧ Below W.heap.size W w'))
    (TX : ByteArray) (dT : (TX.toList == (s.extract 0 6).toList) = true) (HK : Hid (∀ W, Calls Try.prog 16 #[.int .i64 K] W fun e w' => e = .returned (.bool true) ∧ w' = W))
    (HH : Hid (∀ W, Calls Try.prog 18 #[.agg #[.int .i64 K, .int .i64 N, .int .i64 A, .int .i64 C, .bool B, .string ⟨#[]⟩], .int .i64 Z] W fun e w' => e = .returned (.string TX) ∧ Below W.heap.size W w'))
    (D : ByteArray)  (HB : Hid (∀ W, Calls Try.prog 24 #[.string (s.extract 6 s.size), .int .i64 Z] W fun e w' => e = .returned (.tuple #[.string D, .int .i64 0]) ∧ Below W.heap.size W w'))
    (Q R : Nat) (hQ : Q ≤ 5000) (hR : IntKind.i64.wrap (6 + (Q : Int)) = (R : Int)) (hR' : wrap64 (6 + (Q : Int)) = (R : Int)) (HZ : Hid (∀ W, Calls Try.prog 25 #[.int .i64 Z] W fun e w' => e = .returned (.int .i64 Q) ∧ w' = W)) :
    Calls Try.prog 12 #[.string s] w fun e w' => e = .returned (If.resV (.ok (⟨K, N, A, C, B, D.data.toList⟩, R))) ∧ Below w.heap.size w w' := by
  have bw := If.below1 w (.cells #[.int .i64 0, .int .i64 0, .int .i64 0, .int .i64 0, .bool false, .string ⟨#[]⟩] 23)
  go_enter Try.func12, Try.ntmps12
  go_upto_region 8 with (go_at_call 23; refine (HR.out _).mono ?_; rintro e w1 ⟨rfl, b1⟩)
  have k0 : Rg.Bk w.heap.size [.int .i64 0, .int .i64 0, .int .i64 0, .int .i64 0, .bool false, .string ⟨#[]⟩] 23 (w.alloc (.cells #[.int .i64 0, .int .i64 0, .int .i64 0, .int .i64 0, .bool false, .string ⟨#[]⟩] 23)) := Rg.Bk.new rfl
  have kR := (k0.below b1 k0.lt).old (.cells #[.int .i64 K, .int .i64 N, .int .i64 A, .int .i64 C, .bool B, .string ⟨#[]⟩] 23)
  have hlt : w.heap.size < w1.heap.size := Nat.lt_of_lt_of_le k0.lt b1.size
  have bR : Below w.heap.size w (w1.alloc (.cells #[.int .i64 K, .int .i64 N, .int .i64 A, .int .i64 C, .bool B, .string ⟨#[]⟩] 23)) := If.more (bw.trans (b1.mono bw.size)) _
  have kF : Rg.Bk w1.heap.size [.int .i64 K, .int .i64 N, .int .i64 A, .int .i64 C, .bool B, .string ⟨#[]⟩] 23 (w1.alloc (.cells #[.int .i64 K, .int .i64 N, .int .i64 A, .int .i64 C, .bool B, .string ⟨#[]⟩] 23)) := Rg.Bk.new rfl
  clear k0 b1 bw
  generalize w1.alloc (.cells #[.int .i64 K, .int .i64 N, .int .i64 A, .int .i64 C, .bool B, .string ⟨#[]⟩] 23) = W at *
  generalize hP : w1.heap.size = P at *
  clear hP
  have c0 := kF.cell 0; have c1 := kF.cell 1; have c2 := kF.cell 2; have c3 := kF.cell 3; have c4 := kF.cell 4; have c5 := kF.cell 5; simp only [List.getElem?_cons_zero, List.getElem?_cons_succ] at c0 c1 c2 c3 c4 c5
  go_region_held3 (fun w' => w'.cell? ⟨P, 0, none⟩ = some (.int .i64 K) ∧ w'.cell? ⟨P, 1, none⟩ = some (.int .i64 N) ∧ w'.cell? ⟨P, 2, none⟩ = some (.int .i64 A) ∧ w'.cell? ⟨P, 3, none⟩ = some (.int .i64 C) ∧ w'.cell? ⟨P, 4, none⟩ = some (.bool B) ∧ w'.cell? ⟨P, 5, none⟩ = some (.string ⟨#[]⟩)) (go_keep) (first
    | (go_at_call 16; refine (HK.out _).mono ?_; rintro e w2 ⟨rfl, rfl⟩)
    | (go_at_call 18; refine (HH.out _).mono ?_; rintro e w3 ⟨rfl, b3⟩; have kF3 := (show Rg.Bk P [.int .i64 K, .int .i64 N, .int .i64 A, .int .i64 C, .bool B, .string ⟨#[]⟩] 23 _ from (by first | exact kF | exact kF.drew)).below b3 (by exact kF.lt); have kR3 := (show Rg.Bk w.heap.size [.int .i64 0, .int .i64 0, .int .i64 0, .int .i64 0, .bool false, .string ⟨#[]⟩] 23 _ from (by first | exact kR | exact kR.drew)).below b3 (by exact kR.lt); have bR3 := bR.drew.trans (b3.mono bR.drew.size); have e0 := kF3.cell 0; have e1 := kF3.cell 1; have e2 := kF3.cell 2; have e3 := kF3.cell 3; have e4 := kF3.cell 4; have e5 := kF3.cell 5; simp only [List.getElem?_cons_zero, List.getElem?_cons_succ] at e0 e1 e2 e3 e4 e5))
  clear e0 e1 e2 e3 e4 e5 c0 c1 c2 c3 c4 c5
  go_upto_region 12 with (go_at_call 24; refine (HB.out _).mono ?_; rintro e w4 ⟨rfl, b4⟩; have kF4 := (show Rg.Bk P [.int .i64 K, .int .i64 N, .int .i64 A, .int .i64 C, .bool B, .string ⟨#[]⟩] 23 _ from (by first | exact kF3 | exact kF3.drew)).below b4 (by exact kF3.lt); have kR4 := (show Rg.Bk w.heap.size [.int .i64 0, .int .i64 0, .int .i64 0, .int .i64 0, .bool false, .string ⟨#[]⟩] 23 _ from (by first | exact kR3 | exact kR3.drew)).below b4 (by exact kR3.lt); have bR4 := (show Below w.heap.size w _ from (by first | exact bR3 | exact bR3.drew)).trans (b4.mono (by first | exact bR3.size | exact bR3.drew.size)); have cF := kF4.cell; have fF := kF4.thaw; have zF := kF4.lt)
  have kF5 : Rg.Bk P [.int .i64 K, .int .i64 N, .int .i64 A, .int .i64 C, .bool B, .string D] 23 _ := kF4.set 5 (.string D)
  have kR5 := kR4.other (c := P) (i := 5) (by omega) (.string D)
  have bR5 := bR4.setCell (p := ⟨P, 5, none⟩) (show w.heap.size ≤ P by omega) (.string D)
  clear cF fF zF
  generalize World.setCell _ _ _ = w5 at *
  have cR := kR5.cell; have fR := kR5.thaw; have zR := kR5.lt
  have p0 := kF5.cell 0; have p1 := kF5.cell 1; have p2 := kF5.cell 2; have p3 := kF5.cell 3; have p4 := kF5.cell 4; have p5 := kF5.cell 5; simp only [List.getElem?_cons_zero, List.getElem?_cons_succ] at p0 p1 p2 p3 p4 p5
  have hk := Rg.ret6 kR5 rfl (.int .i64 K) (.int .i64 N) (.int .i64 A) (.int .i64 C) (.bool B) (.string D)
  go_upto_region 14 with fail
  go_region_with (go_at_call 25; refine (HZ.out _).mono ?_; rintro e w6 ⟨rfl, rfl⟩)
  all_goals
    go_wp2
    clear cR fR zR p0 p1 p2 p3 p4 p5
    generalize World.setCell _ _ _ = WE at *
    obtain ⟨kE, oE⟩ := hk
    have cE := kE.drew.cell
    exact bodyPost_ret (v := If.resV (.ok (⟨K, N, A, C, B, D.data.toList⟩, R))) (by simp [results, Try.results12, go_sem, cE, If.resV, Act.put]) rfl ⟨rfl, (bR5.trans (oE.bel (Nat.le_refl _))).drew⟩
end Go.Proofs.Ytghelhcmecmldaa
