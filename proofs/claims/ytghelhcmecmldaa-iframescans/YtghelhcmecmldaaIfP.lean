/-
  Walks of layer 12: the document's Read of a packet with data.
-/
import Derived.Test.YtghelhcmecmldaaIfN
namespace Go.Proofs.Ytghelhcmecmldaa
open Go.RowKit
set_option linter.unusedVariables false in
set_option maxHeartbeats 4000000 in
set_option maxRecDepth 100000 in
theorem rread_full (s : ByteArray) (w : World) (h6 : 6 ≤ s.size) (hml : s.size ≤ 9223372036854775807) (e0 : (s.toList == []) = false) (d1 : ((s[0].toNat : Int) == 7) = true) (d2 : decide ((s.size : Int) < 6) = false) (j1 : (1 : Int) < (s.size : Int)) (j2 : (2 : Int) < (s.size : Int)) (j3 : (3 : Int) < (s.size : Int)) (j4 : (4 : Int) < (s.size : Int)) (j6 : (6 : Int) ≤ (s.size : Int))
    (b1 : s[1].toNat < 256) (b2 : s[2].toNat < 256) (b3 : s[3].toNat < 256) (b4 : s[4].toNat < 256) (HX : Hid (∀ W, Calls Try.prog 26 #[.string (s.extract 1 6)] W fun e w' => e = .returned (.int .i64 0) ∧ w' = W)) (K : Nat) (f1 : (s[3].toNat : Int) / 32 = (K : Int)) (HK : Hid (∀ W, Calls Try.prog 20 #[.int .i64 K] W fun e w' => e = .returned (.bool true) ∧ w' = W))
    (N A C M Z1 : Nat) (B : Bool) (f2 : (s[1].toNat : Int) / 8 = (N : Int)) (f3 : (s[2].toNat : Int) / 8 = (A : Int)) (f4 : bits .and .i64 (s[1].toNat : Int) 7 = (C : Int)) (f5 : bits .and .i64 (s[2].toNat : Int) 7 = (C : Int))
    (f6 : bits .and .i64 (s[3].toNat : Int) 16 = (M : Int)) (f6' : ((M : Int) != 0) = B) (f7 : bits .and .i64 (s[3].toNat : Int) 15 = (Z1 : Int)) (hZ1 : Z1 < 16)
    (Z P6 P10 : Nat) (f8 : bits .or .i64 ((Z1 : Int) * 256) (s[4].toNat : Int) = (Z : Int)) (z1 : ¬ Z = 0) (z2 : ((Z : Int) == 0) = false) (p1 : wrap64 (10 + (Z : Int)) = (P10 : Int)) (p2 : IntKind.i64.wrap (10 + (Z : Int)) = (P10 : Int)) (p4 : wrap64 (6 + (Z : Int)) = (P6 : Int)) (p5 : IntKind.i64.wrap (6 + (Z : Int)) = (P6 : Int)) (G : Nat) (q1 : decide ((s.size : Int) < (P10 : Int)) = false) (q2 : decide (s.size < P10) = false) (g1 : (6 : Int) ≤ (P6 : Int)) (g2 : (P6 : Int) ≤ (s.size : Int))
    (HG : Hid (∀ W, Calls Try.prog 27 #[.string s, .int .i64 P6, .int .i64 4] W fun e w' => e = .returned (.tuple #[.int .i64 (G : Int), .int .i64 0]) ∧ w' = W))
    (HC : Hid (∀ W, Calls Try.prog 22 #[.string (s.extract 6 P6)] W fun e w' => e = .returned (.int .i64 (G : Int)) ∧ w' = W)) (D : ByteArray) (hD : Hid (s.extract 6 P6 = D)) :
    Calls Try.prog 13 #[.string s] w fun e w' => e = .returned (If.resV (.ok (⟨K, N, A, C, B, D.data.toList⟩, P10))) ∧ Below w.heap.size w w' := by
  go_enter Try.func13, Try.ntmps13
  go_upto_region 8 with fail
  go_big_region
  have kR : Rg.Bk w.heap.size [.int .i64 0, .int .i64 0, .int .i64 0, .int .i64 0, .bool false, .string ⟨#[]⟩] 23 ((w.alloc (.cells #[.int .i64 0, .int .i64 0, .int .i64 0, .int .i64 0, .bool false, .string ⟨#[]⟩] 23)).alloc (.cells #[.int .i64 0, .int .i64 0, .int .i64 0, .int .i64 0, .bool false, .string ⟨#[]⟩] 23)).drew := ((Rg.Bk.new rfl).old _).drew
  have kN : Rg.Bk (w.heap.size + 1) [.int .i64 0, .int .i64 0, .int .i64 0, .int .i64 0, .bool false, .string ⟨#[]⟩] 23 ((w.alloc (.cells #[.int .i64 0, .int .i64 0, .int .i64 0, .int .i64 0, .bool false, .string ⟨#[]⟩] 23)).alloc (.cells #[.int .i64 0, .int .i64 0, .int .i64 0, .int .i64 0, .bool false, .string ⟨#[]⟩] 23)).drew := (Rg.Bk.new (by simp)).drew
  have bR : Below w.heap.size w ((w.alloc (.cells #[.int .i64 0, .int .i64 0, .int .i64 0, .int .i64 0, .bool false, .string ⟨#[]⟩] 23)).alloc (.cells #[.int .i64 0, .int .i64 0, .int .i64 0, .int .i64 0, .bool false, .string ⟨#[]⟩] 23)).drew := (If.more (If.below1 w _) _).drew
  have hne : ¬ w.heap.size = w.heap.size + 1 := by omega
  generalize ((w.alloc (.cells #[.int .i64 0, .int .i64 0, .int .i64 0, .int .i64 0, .bool false, .string ⟨#[]⟩] 23)).alloc (.cells #[.int .i64 0, .int .i64 0, .int .i64 0, .int .i64 0, .bool false, .string ⟨#[]⟩] 23)).drew = W at *
  generalize hPN : w.heap.size + 1 = PN at *
  clear hPN
  have cN := kN.cell; have cR := kR.cell; have fR := kR.thaw; have zR := kR.lt
  clear cN cR fR zR
  go_upto_region 12 with (first | (go_at_call 26; refine (HX.out _).mono ?_; rintro e w2 ⟨rfl, hw2⟩; obtain rfl := hw2.symm) | (go_at_call 20; refine (HK.out _).mono ?_; rintro e w2 ⟨rfl, hw2⟩; obtain rfl := hw2.symm))
  have kR2 := kR.old (.cells #[.int .i64 K, .int .i64 N, .int .i64 A, .int .i64 C, .bool B, .string ⟨#[]⟩] 23)
  have kN2 := kN.old (.cells #[.int .i64 K, .int .i64 N, .int .i64 A, .int .i64 C, .bool B, .string ⟨#[]⟩] 23)
  have kF : Rg.Bk W.heap.size [.int .i64 K, .int .i64 N, .int .i64 A, .int .i64 C, .bool B, .string ⟨#[]⟩] 23 (W.alloc (.cells #[.int .i64 K, .int .i64 N, .int .i64 A, .int .i64 C, .bool B, .string ⟨#[]⟩] 23)) := Rg.Bk.new rfl
  have bR2 : Below w.heap.size w (W.alloc (.cells #[.int .i64 K, .int .i64 N, .int .i64 A, .int .i64 C, .bool B, .string ⟨#[]⟩] 23)) := If.more bR _
  have hRF : w.heap.size < W.heap.size := kR.lt
  have hNF : PN < W.heap.size := kN.lt
  generalize (W.alloc (.cells #[.int .i64 K, .int .i64 N, .int .i64 A, .int .i64 C, .bool B, .string ⟨#[]⟩] 23)) = W2 at *
  generalize hPF : W.heap.size = PF at *
  clear hPF kR kN bR
  have cN := kN2.cell; have cR := kR2.cell; have fR := kR2.thaw; have zR := kR2.lt; have cF := kF.cell; have fF := kF.thaw; have zF := kF.lt
  go_upto_region 21 with (first | (go_at_call 27; refine (HG.out _).mono ?_; rintro e w2 ⟨rfl, hw2⟩; obtain rfl := hw2.symm) | (go_at_call 22; refine (HC.out _).mono ?_; rintro e w2 ⟨rfl, hw2⟩; obtain rfl := hw2.symm))
  rw [hD.out]
  have kF3 : Rg.Bk PF [.int .i64 K, .int .i64 N, .int .i64 A, .int .i64 C, .bool B, .string D] 23 _ := kF.set 5 (.string D)
  have kR3 := kR2.other (c := PF) (i := 5) (Nat.ne_of_lt hRF) (.string D)
  have bR3 := bR2.setCell (p := ⟨PF, 5, none⟩) (Nat.le_of_lt hRF) (.string D)
  clear cN cR fR zR cF fF zF
  generalize World.setCell _ _ _ = W4 at *
  have cR := kR3.cell; have fR := kR3.thaw; have zR := kR3.lt; have cF := kF3.cell; have zF := kF3.lt
  have hk := Rg.ret6 kR3 rfl (.int .i64 K) (.int .i64 N) (.int .i64 A) (.int .i64 C) (.bool B) (.string D)
  go_wp2
  clear cR fR zR cF zF
  generalize World.setCell _ _ _ = WE at *
  obtain ⟨kE, oE⟩ := hk
  have cE := kE.cell
  exact bodyPost_ret (v := If.resV (.ok (⟨K, N, A, C, B, D.data.toList⟩, P10))) (by simp [results, Try.results13, go_sem, cE, If.resV]) rfl ⟨rfl, bR3.trans (oE.bel (Nat.le_refl _))⟩
end Go.Proofs.Ytghelhcmecmldaa
