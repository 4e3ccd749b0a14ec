/-
  Walks of layer 11: Read, where the code does not fit.
-/
import Derived.Test.YtfiffbohhhehkaaGreatBuFrB
namespace Go.Proofs.YtfiffbohhhehkaaGreat
open Go.RowKit
set_option maxHeartbeats 2000000 in
set_option maxRecDepth 100000 in
theorem read_code (s : ByteArray) (h6 : 6 ≤ s.size) (h : s[0].toNat = 16) (hs : s.size ≤ maxLen) (hx : (s[1].toNat ^^^ s[2].toNat ^^^ s[3].toNat ^^^ s[4].toNat) = s[5].toNat) (hc : Gf.okCode (s[4].toNat / 64) s[1].toNat = false) (w : World) :
    Calls Tryz.prog 77 #[.string s] w fun e w' => e = .returned (Gf.resV (.error 3)) ∧ Below w.heap.size w w' := by
  have bw := Gf.below1 w (.cells #[.int .i64 0, .int .i64 0, .int .i64 0, .int .i64 0, .string ⟨#[]⟩] 80)
  have k0 : Rg.Bk w.heap.size [.int .i64 0, .int .i64 0, .int .i64 0, .int .i64 0, .string ⟨#[]⟩] 80 (w.alloc (.cells #[.int .i64 0, .int .i64 0, .int .i64 0, .int .i64 0, .string ⟨#[]⟩] 80)) := Rg.Bk.new rfl
  have hml : s.size ≤ 9223372036854775807 := hs
  have e0 := Gf.ne_nil (s := s) (by omega)
  have d1 : ((s[0].toNat : Int) == 16) = true := by rw [h]; rfl
  have d2 : decide ((s.size : Int) < 6) = false := by simp; omega
  have b1 := UInt8.toNat_lt s[1]
  have b2 := UInt8.toNat_lt s[2]
  have b3 := UInt8.toNat_lt s[3]
  have b4 := UInt8.toNat_lt s[4]
  have o1 := Gf.sum_or b2 b3
  have hsl : s[2].toNat + 256 * s[3].toNat < 65536 := by omega
  have dT := Gf.head_dec s h6 h
  rw [decide_eq_true hx] at dT
  clear hx
  have HT : Hid (∀ W, Calls Tryz.prog 98 #[.agg #[.int .i64 s[1].toNat, .int .i64 ((s[2].toNat + 256 * s[3].toNat : Nat) : Int), .int .i64 s[4].toNat]] W fun e w' => e = .returned (.string ⟨(Gf.head s[1].toNat (s[2].toNat + 256 * s[3].toNat) s[4].toNat).toArray⟩) ∧ Below W.heap.size W w') := fun W => gtext_any _ _ _ b1 hsl b4 W
  have x6 : (⟨(Gf.head s[1].toNat (s[2].toNat + 256 * s[3].toNat) s[4].toNat).toArray⟩ : ByteArray).size = 6 := rfl
  generalize (⟨(Gf.head s[1].toNat (s[2].toNat + 256 * s[3].toNat) s[4].toNat).toArray⟩ : ByteArray) = TX at *
  have HC : Hid (∀ W, Calls Tryz.prog 99 #[.int .i64 ((s[4].toNat / 64 : Nat) : Int), .int .i64 s[1].toNat] W fun e w' => e = .returned (.bool false) ∧ w' = W) := fun W => by have := isCodeOf_any (s[4].toNat / 64) s[1].toNat W; rwa [hc] at this
  clear hc
  generalize s[2].toNat + 256 * s[3].toNat = m at *
  clear hs h
  go_enter Tryz.func77, Tryz.ntmps77
  go_upto_region 7 with fail
  clear e0 d1 d2
  generalize w.alloc (.cells #[.int .i64 0, .int .i64 0, .int .i64 0, .int .i64 0, .string ⟨#[]⟩] 80) = W at *
  have g1 : 1 < s.size := by omega
  have g2 : 2 < s.size := by omega
  have g3 : 3 < s.size := by omega
  have g4 : 4 < s.size := by omega
  have j1 : (1 : Int) < (s.size : Int) := by omega
  have j2 : (2 : Int) < (s.size : Int) := by omega
  have j3 : (3 : Int) < (s.size : Int) := by omega
  have j4 : (4 : Int) < (s.size : Int) := by omega
  have j6 : (6 : Int) ≤ (s.size : Int) := by omega
  go_big_region
  clear o1
  generalize s[1].toNat = k at *
  generalize s[4].toNat = c at *
  generalize s[2].toNat = b2v at *
  generalize s[3].toNat = b3v at *
  have kH : Rg.Bk W.heap.size [.int .i64 k, .int .i64 m, .int .i64 c] 133 (W.alloc (.cells #[.int .i64 k, .int .i64 m, .int .i64 c] 133)).drew := Rg.Bk.new (W := W) rfl
  have kR : Rg.Bk w.heap.size [.int .i64 0, .int .i64 0, .int .i64 0, .int .i64 0, .string ⟨#[]⟩] 80 (W.alloc (.cells #[.int .i64 k, .int .i64 m, .int .i64 c] 133)).drew := k0.old _
  have bR : Below w.heap.size w (W.alloc (.cells #[.int .i64 k, .int .i64 m, .int .i64 c] 133)).drew := (bw.alloc bw.size _).drew
  have hRH : w.heap.size < W.heap.size := k0.lt
  have f1 := Gf.hi_and c
  have f2 := Gf.lo_and c
  have f3 : (c : Int) / 64 = ((c / 64 : Nat) : Int) := by omega
  clear k0 bw
  generalize c / 8 % 8 = HI at *
  generalize c % 8 = LO at *
  generalize c / 64 = T at *
  generalize W.heap.size = H at *
  generalize (W.alloc (.cells #[.int .i64 k, .int .i64 m, .int .i64 c] 133)).drew = W1 at *
  clear W
  have c2 := kH.cell 2
  simp only [List.getElem?_cons_zero, List.getElem?_cons_succ] at c2
  have hH1 := kH.lt
  go_upto_region 9 with fail
  clear f1 f2 f3 c2
  have kF : Rg.Bk W1.heap.size [.int .i64 T, .int .i64 HI, .int .i64 LO, .int .i64 0, .string ⟨#[]⟩] 80 (W1.alloc (.cells #[.int .i64 T, .int .i64 HI, .int .i64 LO, .int .i64 0, .string ⟨#[]⟩] 80)) := Rg.Bk.new rfl
  replace kH := kH.old (.cells #[.int .i64 T, .int .i64 HI, .int .i64 LO, .int .i64 0, .string ⟨#[]⟩] 80)
  replace kR := kR.old (.cells #[.int .i64 T, .int .i64 HI, .int .i64 LO, .int .i64 0, .string ⟨#[]⟩] 80)
  replace bR := bR.alloc bR.size (.cells #[.int .i64 T, .int .i64 HI, .int .i64 LO, .int .i64 0, .string ⟨#[]⟩] 80)
  generalize W1.heap.size = F at *
  generalize W1.alloc (.cells #[.int .i64 T, .int .i64 HI, .int .i64 LO, .int .i64 0, .string ⟨#[]⟩] 80) = W2 at *
  clear W1
  have hFR : ¬ w.heap.size = F := by omega
  have hFH : ¬ H = F := by omega
  have hHR : ¬ w.heap.size = H := by omega
  have hx2 : (s.extract 0 6).size = 6 := by rw [← Gf.len_eq, Gf.head_list s h6]; rfl
  generalize hR : w.heap.size = R at *
  replace hR := Rg.hid hR
  have i0 := kH.cell 0; have i1 := kH.cell 1; have i2 := kH.cell 2; have n0 := kF.cell 0
  simp only [List.getElem?_cons_zero, List.getElem?_cons_succ] at i0 i1 i2 n0
  refine wp_region_held_drew (S := (fun w' => w'.cell? ⟨H, 0, none⟩ = some (.int .i64 k) ∧ w'.cell? ⟨H, 1, none⟩ = some (.int .i64 m) ∧ w'.cell? ⟨H, 2, none⟩ = some (.int .i64 c) ∧ w'.cell? ⟨F, 0, none⟩ = some (.int .i64 T))) (by kernel_rfl) ?_ (fun hH0 => ?_)
  · go_keep
  refine wpAnyH_take (i := 0) (oi := { dst := some 45, op := Op.load 133 (Operand.tmp 5), type := 133, pos := _, after := #[], guard := none }) (v := ?_) rfl (by kernel_rfl) (by kernel_rfl) (by kernel_rfl) (fun _ _ _ h => h) (Or.inl ⟨by rfl, ?_⟩) (by assumption) ?_
  rotate_left
  · (intro w hSw; (try dsimp only at hSw); go_simp); (try with_reducible rfl)
  simp only [Act.put, List.setIfInBounds_toArray, List.set_cons_zero, List.set_cons_succ]
  refine wpAnyH_take (i := 2) (oi := { dst := some 47, op := Op.move (Operand.tmp 0), type := 9, pos := _, after := #[], guard := none }) (v := ?_) rfl (by kernel_rfl) (by kernel_rfl) (by kernel_rfl) (fun _ _ _ h => h) (Or.inl ⟨by rfl, ?_⟩) (by assumption) ?_
  rotate_left
  · (intro w hSw; (try dsimp only at hSw); go_simp); (try with_reducible rfl)
  simp only [Act.put, List.setIfInBounds_toArray, List.set_cons_zero, List.set_cons_succ]
  refine wpAnyH_take (i := 3) (oi := { dst := some 48, op := Op.slice 9 (Operand.tmp 47) none (some (Operand.const (Value.int IntKind.i64 6))) none, type := 9, pos := _, after := #[{ on := 2, ground := Ground.data }], guard := none }) (v := ?_) rfl (by kernel_rfl) (by kernel_rfl) (by kernel_rfl) (fun _ _ _ h => h) (Or.inl ⟨by rfl, ?_⟩) (by assumption) ?_
  rotate_left
  · (intro w hSw; (try dsimp only at hSw); go_simp); (try with_reducible rfl)
  simp only [Act.put, List.setIfInBounds_toArray, List.set_cons_zero, List.set_cons_succ]
  refine wpAnyH_ready (rs := [1]) (by kernel_rfl) (by simp) ?_
  refine AllReadyH.cons (o := { dst := some 46, op := Op.call { callee := Callee.value (Operand.func 98), args := #[Operand.tmp 45], argTypes := #[133] }, type := 9, pos := _, after := #[{ on := 0, ground := Ground.data }], guard := none }) rfl (fun K hK => ?_) AllReadyH.nil
  go_simp
  go_at_call 98; refine (HT.out _).mono ?_; rintro e w2 ⟨rfl, b5⟩; have p0 := (kH.drew.below b5 kH.lt).cell 0; have p1 := (kH.drew.below b5 kH.lt).cell 1; have p2 := (kH.drew.below b5 kH.lt).cell 2; have q0 := (kF.drew.below b5 kF.lt).cell 0; simp only [List.getElem?_cons_zero, List.getElem?_cons_succ] at p0 p1 p2 q0
  refine hK.out _ _ ?_ (fun hH1 => ?_)
  · go_keep
  clear hK K hH0
  refine wpAnyH_take (i := 4) (oi := { dst := some 49, op := Op.binOp BinOp.neq 9 (Operand.tmp 46) (Operand.tmp 48) 9, type := 4, pos := _, after := #[{ on := 1, ground := Ground.data }, { on := 3, ground := Ground.data }], guard := none }) (v := ?_) rfl (by kernel_rfl) (by kernel_rfl) (by kernel_rfl) (fun _ _ _ h => h) (Or.inl ⟨by rfl, ?_⟩) (by assumption) ?_
  rotate_left
  · (intro w hSw; (try dsimp only at hSw); go_simp); (try with_reducible rfl)
  simp only [Act.put, List.setIfInBounds_toArray, List.set_cons_zero, List.set_cons_succ]
  refine wpAnyH_take (i := 5) (oi := { dst := some 50, op := Op.move (Operand.tmp 49), type := 4, pos := _, after := #[{ on := 4, ground := Ground.data }, { on := 1, ground := Ground.chain }], guard := none }) (v := ?_) rfl (by kernel_rfl) (by kernel_rfl) (by kernel_rfl) (fun _ _ _ h => h) (Or.inl ⟨by rfl, ?_⟩) (by assumption) ?_
  rotate_left
  · (intro w hSw; (try dsimp only at hSw); go_simp); (try with_reducible rfl)
  simp only [Act.put, List.setIfInBounds_toArray, List.set_cons_zero, List.set_cons_succ]
  refine wpAnyH_take (i := 6) (oi := { dst := some 51, op := Op.fieldAddr 80 (Operand.tmp 6) 0, type := 0, pos := _, after := #[{ on := 5, ground := Ground.guard }], guard := some (5, false) }) (v := ?_) rfl (by kernel_rfl) (by kernel_rfl) (by kernel_rfl) (fun _ _ _ h => h) (Or.inl ⟨by rfl, ?_⟩) (by assumption) ?_
  rotate_left
  · (intro w hSw; (try dsimp only at hSw); go_simp); (try with_reducible rfl)
  simp only [Act.put, List.setIfInBounds_toArray, List.set_cons_zero, List.set_cons_succ]
  refine wpAnyH_take (i := 7) (oi := { dst := some 52, op := Op.load 3 (Operand.tmp 51), type := 3, pos := _, after := #[{ on := 6, ground := Ground.data }, { on := 5, ground := Ground.guard }], guard := some (5, false) }) (v := ?_) rfl (by kernel_rfl) (by kernel_rfl) (by kernel_rfl) (fun _ _ _ h => h) (Or.inl ⟨by rfl, ?_⟩) (by assumption) ?_
  rotate_left
  · (intro w hSw; (try dsimp only at hSw); go_simp); (try with_reducible rfl)
  simp only [Act.put, List.setIfInBounds_toArray, List.set_cons_zero, List.set_cons_succ]
  refine wpAnyH_take (i := 8) (oi := { dst := some 53, op := Op.fieldAddr 133 (Operand.tmp 5) 0, type := 0, pos := _, after := #[{ on := 5, ground := Ground.guard }], guard := some (5, false) }) (v := ?_) rfl (by kernel_rfl) (by kernel_rfl) (by kernel_rfl) (fun _ _ _ h => h) (Or.inl ⟨by rfl, ?_⟩) (by assumption) ?_
  rotate_left
  · (intro w hSw; (try dsimp only at hSw); go_simp); (try with_reducible rfl)
  simp only [Act.put, List.setIfInBounds_toArray, List.set_cons_zero, List.set_cons_succ]
  refine wpAnyH_take (i := 9) (oi := { dst := some 54, op := Op.load 3 (Operand.tmp 53), type := 3, pos := _, after := #[{ on := 8, ground := Ground.data }, { on := 5, ground := Ground.guard }], guard := some (5, false) }) (v := ?_) rfl (by kernel_rfl) (by kernel_rfl) (by kernel_rfl) (fun _ _ _ h => h) (Or.inl ⟨by rfl, ?_⟩) (by assumption) ?_
  rotate_left
  · (intro w hSw; (try dsimp only at hSw); go_simp); (try with_reducible rfl)
  simp only [Act.put, List.setIfInBounds_toArray, List.set_cons_zero, List.set_cons_succ]
  refine wpAnyH_ready (rs := [10]) (by kernel_rfl) (by simp) ?_
  refine AllReadyH.cons (o := { dst := some 55, op := Op.call { callee := Callee.value (Operand.func 99), args := #[Operand.tmp 52, Operand.tmp 54], argTypes := #[3, 3] }, type := 4, pos := _, after := #[{ on := 7, ground := Ground.data }, { on := 9, ground := Ground.data }, { on := 5, ground := Ground.chain }, { on := 5, ground := Ground.guard }], guard := some (5, false) }) rfl (fun K hK => ?_) AllReadyH.nil
  go_simp
  go_at_call 99; refine (HC.out _).mono ?_; rintro e w3 ⟨rfl, rfl⟩
  refine hK.out _ _ ?_ (fun hH10 => ?_)
  · go_keep
  clear hK K hH1
  refine wpAnyH_take (i := 11) (oi := { dst := some 56, op := Op.unOp UnOp.not 4 (Operand.tmp 55), type := 4, pos := _, after := #[{ on := 10, ground := Ground.data }, { on := 5, ground := Ground.guard }], guard := some (5, false) }) (v := ?_) rfl (by kernel_rfl) (by kernel_rfl) (by kernel_rfl) (fun _ _ _ h => h) (Or.inl ⟨by rfl, ?_⟩) (by assumption) ?_
  rotate_left
  · (intro w hSw; (try dsimp only at hSw); go_simp); (try with_reducible rfl)
  simp only [Act.put, List.setIfInBounds_toArray, List.set_cons_zero, List.set_cons_succ]
  refine wpAnyH_take (i := 12) (oi := { dst := some 57, op := Op.pick (Operand.tmp 50) (Operand.const (Value.bool true)) (Operand.tmp 56), type := 4, pos := _, after := #[{ on := 5, ground := Ground.data }, { on := 11, ground := Ground.data }], guard := none }) (v := ?_) rfl (by kernel_rfl) (by kernel_rfl) (by kernel_rfl) (fun _ _ _ h => h) (Or.inl ⟨by rfl, ?_⟩) (by assumption) ?_
  rotate_left
  · (intro w hSw; (try dsimp only at hSw); go_simp); (try with_reducible rfl)
  simp only [Act.put, List.setIfInBounds_toArray, List.set_cons_zero, List.set_cons_succ]
  refine wpAnyH_done (by kernel_rfl) ?_ _
  have kR2 := kR.drew.below b5 kR.lt
  have kH2 := kH.drew.below b5 kH.lt
  have kF2 := kF.drew.below b5 kF.lt
  have bR2 := bR.drew.trans (b5.mono (Nat.le_of_lt kR.lt))
  have cR := kR2.cell; have fR := kR2.thaw; have zR := kR2.lt
  have hk := Rg.ret5 kR2 rfl (.int .i64 0) (.int .i64 0) (.int .i64 0) (.int .i64 0) (.string ⟨#[]⟩)
  go_wp2
  clear cR fR zR
  generalize World.setCell _ _ _ = WE at *
  obtain ⟨kE, oE⟩ := hk
  have cE := kE.cell
  exact bodyPost_ret (v := Gf.resV (.error 3)) (by simp [results, Tryz.results77, go_sem, cE, Gf.resV]) rfl ⟨rfl, by rw [hR.out]; first | exact bR2.trans (oE.bel (Nat.le_refl _)) | exact (bR2.trans (oE.bel (Nat.le_refl _))).drew⟩
end Go.Proofs.YtfiffbohhhehkaaGreat
