/-
  Walks of layer 12: Read of a kind that is none.
-/
import Derived.Test.YtghelhcmecmldaaIf7
namespace Go.Proofs.Ytghelhcmecmldaa
open Go.RowKit
set_option linter.unusedSimpArgs false in
set_option linter.unusedVariables false in
set_option maxHeartbeats 4000000 in
set_option maxRecDepth 100000 in
theorem iread_kind (s : ByteArray) (K N A C Z : Nat) (B : Bool) (w : World) (h6 : 6 ≤ s.size) (hml : s.size ≤ 9223372036854775807) (e0 : (s.toList == []) = false) (d1 : ((s[0].toNat : Int) == 7) = true) (d2 : decide ((s.size : Int) < 6) = false) (j6 : (6 : Int) ≤ (s.size : Int))
    (HR : Hid (∀ W, Calls Try.prog 23 #[.string s] W fun e w' => e = .returned (.tuple #[.agg #[.int .i64 K, .int .i64 N, .int .i64 A, .int .i64 C, .bool B, .string ⟨#[]⟩], .int .i64 Z]) ∧ Below W.heap.size W w'))
    (HK : Hid (∀ W, Calls Try.prog 16 #[.int .i64 K] W fun e w' => e = .returned (.bool false) ∧ w' = W)) :
    Calls Try.prog 12 #[.string s] w fun e w' => e = .returned (If.resV (.error 3)) ∧ Below w.heap.size w w' := by
  have bw := If.below1 w (.cells #[.int .i64 0, .int .i64 0, .int .i64 0, .int .i64 0, .bool false, .string ⟨#[]⟩] 23)
  go_enter Try.func12, Try.ntmps12
  go_upto_region 8 with (go_at_call 23; refine (HR.out _).mono ?_; rintro e w1 ⟨rfl, b1⟩)
  have k0 : Rg.Bk w.heap.size [.int .i64 0, .int .i64 0, .int .i64 0, .int .i64 0, .bool false, .string ⟨#[]⟩] 23 (w.alloc (.cells #[.int .i64 0, .int .i64 0, .int .i64 0, .int .i64 0, .bool false, .string ⟨#[]⟩] 23)) := Rg.Bk.new rfl
  have kR := (k0.below b1 k0.lt).old (.cells #[.int .i64 K, .int .i64 N, .int .i64 A, .int .i64 C, .bool B, .string ⟨#[]⟩] 23)
  have hlt : w.heap.size < w1.heap.size := Nat.lt_of_lt_of_le k0.lt b1.size
  have bR : Below w.heap.size w (w1.alloc (.cells #[.int .i64 K, .int .i64 N, .int .i64 A, .int .i64 C, .bool B, .string ⟨#[]⟩] 23)) := If.more (bw.trans (b1.mono bw.size)) _
  have kF : Rg.Bk w1.heap.size [.int .i64 K, .int .i64 N, .int .i64 A, .int .i64 C, .bool B, .string ⟨#[]⟩] 23 (w1.alloc (.cells #[.int .i64 K, .int .i64 N, .int .i64 A, .int .i64 C, .bool B, .string ⟨#[]⟩] 23)) := Rg.Bk.new rfl
  clear k0 b1 bw
  generalize w1.alloc (.cells #[.int .i64 K, .int .i64 N, .int .i64 A, .int .i64 C, .bool B, .string ⟨#[]⟩] 23) = W at *
  generalize hP : w1.heap.size = P at *
  clear hP
  have c0 := kF.cell 0; have c1 := kF.cell 1; have c2 := kF.cell 2; have c3 := kF.cell 3; have c4 := kF.cell 4; have c5 := kF.cell 5; simp only [List.getElem?_cons_zero, List.getElem?_cons_succ] at c0 c1 c2 c3 c4 c5
  refine wp_region_held_drew (S := (fun w' => w'.cell? ⟨P, 0, none⟩ = some (.int .i64 K))) (by kernel_rfl) ?_ (fun hH0 => ?_)
  · go_keep
  refine wpAnyH_take (i := 0) (oi := { dst := some 24, op := _, type := _, pos := _, after := _, guard := _ }) (v := ?_) rfl (by kernel_rfl) (by kernel_rfl) (by kernel_rfl) (fun _ _ _ h => h) (Or.inl ⟨by rfl, ?_⟩) (by assumption) ?_
  rotate_left
  · (intro w hSw; (try dsimp only at hSw); go_simp); (try with_reducible rfl)
  simp only [Act.put, List.setIfInBounds_toArray, List.set_cons_zero, List.set_cons_succ]
  refine wpAnyH_take (i := 1) (oi := { dst := some 25, op := _, type := _, pos := _, after := _, guard := _ }) (v := ?_) rfl (by kernel_rfl) (by kernel_rfl) (by kernel_rfl) (fun _ _ _ h => h) (Or.inl ⟨by rfl, ?_⟩) (by assumption) ?_
  rotate_left
  · (intro w hSw; (try dsimp only at hSw); go_simp); (try with_reducible rfl)
  simp only [Act.put, List.setIfInBounds_toArray, List.set_cons_zero, List.set_cons_succ]
  refine wpAnyH_ready (rs := [2]) (by kernel_rfl) (by simp) ?_
  refine AllReadyH.cons (o := { dst := some 26, op := _, type := _, pos := _, after := _, guard := _ }) rfl (fun KK hK => ?_) AllReadyH.nil
  go_simp
  go_at_call 16; refine (HK.out _).mono ?_; rintro e w2 ⟨rfl, rfl⟩
  refine hK.out _ _ ?_ (fun hH2 => ?_)
  · go_keep
  clear hK KK hH0
  refine wpAnyH_take (i := 3) (oi := { dst := some 27, op := _, type := _, pos := _, after := _, guard := _ }) (v := ?_) rfl (by kernel_rfl) (by kernel_rfl) (by kernel_rfl) (fun _ _ _ h => h) (Or.inl ⟨by rfl, ?_⟩) (by assumption) ?_
  rotate_left
  · (intro w hSw; (try dsimp only at hSw); go_simp); (try with_reducible rfl)
  simp only [Act.put, List.setIfInBounds_toArray, List.set_cons_zero, List.set_cons_succ]
  refine wpAnyH_take (i := 4) (oi := { dst := some 28, op := _, type := _, pos := _, after := _, guard := _ }) (v := ?_) rfl (by kernel_rfl) (by kernel_rfl) (by kernel_rfl) (fun _ _ _ h => h) (Or.inl ⟨by rfl, ?_⟩) (by assumption) ?_
  rotate_left
  · (intro w hSw; (try dsimp only at hSw); go_simp); (try with_reducible rfl)
  simp only [Act.put, List.setIfInBounds_toArray, List.set_cons_zero, List.set_cons_succ]
  refine wpAnyH_take (i := 5) (oi := { dst := some 29, op := _, type := _, pos := _, after := _, guard := _ }) (v := undef) rfl (by kernel_rfl) (by kernel_rfl) (by kernel_rfl) (fun _ _ _ h => h) (Or.inr ⟨by rfl, rfl⟩) (by assumption) ?_
  simp only [Act.put, List.setIfInBounds_toArray, List.set_cons_zero, List.set_cons_succ]
  refine wpAnyH_take (i := 6) (oi := { dst := some 30, op := _, type := _, pos := _, after := _, guard := _ }) (v := undef) rfl (by kernel_rfl) (by kernel_rfl) (by kernel_rfl) (fun _ _ _ h => h) (Or.inr ⟨by rfl, rfl⟩) (by assumption) ?_
  simp only [Act.put, List.setIfInBounds_toArray, List.set_cons_zero, List.set_cons_succ]
  refine wpAnyH_take (i := 7) (oi := { dst := some 31, op := _, type := _, pos := _, after := _, guard := _ }) (v := undef) rfl (by kernel_rfl) (by kernel_rfl) (by kernel_rfl) (fun _ _ _ h => h) (Or.inr ⟨by rfl, rfl⟩) (by assumption) ?_
  simp only [Act.put, List.setIfInBounds_toArray, List.set_cons_zero, List.set_cons_succ]
  refine wpAnyH_take (i := 8) (oi := { dst := some 32, op := _, type := _, pos := _, after := _, guard := _ }) (v := undef) rfl (by kernel_rfl) (by kernel_rfl) (by kernel_rfl) (fun _ _ _ h => h) (Or.inr ⟨by rfl, rfl⟩) (by assumption) ?_
  simp only [Act.put, List.setIfInBounds_toArray, List.set_cons_zero, List.set_cons_succ]
  refine wpAnyH_take (i := 9) (oi := { dst := some 33, op := _, type := _, pos := _, after := _, guard := _ }) (v := undef) rfl (by kernel_rfl) (by kernel_rfl) (by kernel_rfl) (fun _ _ _ h => h) (Or.inr ⟨by rfl, rfl⟩) (by assumption) ?_
  simp only [Act.put, List.setIfInBounds_toArray, List.set_cons_zero, List.set_cons_succ]
  refine wpAnyH_take (i := 10) (oi := { dst := some 34, op := _, type := _, pos := _, after := _, guard := _ }) (v := undef) rfl (by kernel_rfl) (by kernel_rfl) (by kernel_rfl) (fun _ _ _ h => h) (Or.inr ⟨by rfl, rfl⟩) (by assumption) ?_
  simp only [Act.put, List.setIfInBounds_toArray, List.set_cons_zero, List.set_cons_succ]
  refine wpAnyH_take (i := 11) (oi := { dst := some 35, op := _, type := _, pos := _, after := _, guard := _ }) (v := ?_) rfl (by kernel_rfl) (by kernel_rfl) (by kernel_rfl) (fun _ _ _ h => h) (Or.inl ⟨by rfl, ?_⟩) (by assumption) ?_
  rotate_left
  · (intro w hSw; (try dsimp only at hSw); go_simp); (try with_reducible rfl)
  simp only [Act.put, List.setIfInBounds_toArray, List.set_cons_zero, List.set_cons_succ]
  refine wpAnyH_done (by kernel_rfl) ?_ _
  have cR := kR.cell; have fR := kR.thaw; have zR := kR.lt
  have hk := Rg.ret6 kR rfl (.int .i64 0) (.int .i64 0) (.int .i64 0) (.int .i64 0) (.bool false) (.string ⟨#[]⟩)
  go_wp2
  clear cR fR zR
  generalize World.setCell _ _ _ = WE at *
  obtain ⟨kE, oE⟩ := hk
  have cE := kE.drew.cell
  exact bodyPost_ret (v := If.resV (.error 3)) (by simp [results, Try.results12, go_sem, cE, If.resV]) rfl ⟨rfl, by first | exact bR.trans (oE.bel (Nat.le_refl _)) | exact (bR.trans (oE.bel (Nat.le_refl _))).drew⟩
end Go.Proofs.Ytghelhcmecmldaa
