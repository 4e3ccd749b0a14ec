/-
  Walks of layer 11: Read of a packet with a body.
-/
import Derived.Test.YtfiffbohhhehkaaGreatBuFrB
namespace Go.Proofs.YtfiffbohhhehkaaGreat
open Go.RowKit
set_option maxHeartbeats 4000000 in
set_option maxRecDepth 100000 in
theorem rcore_ok (s TX : ByteArray) (m T HI LO : Nat) (w : World) (h6 : 6 ≤ s.size) (hml : s.size ≤ 9223372036854775807) (e0 : (s.toList == []) = false) (d1 : ((s[0].toNat : Int) == 16) = true) (d2 : decide ((s.size : Int) < 6) = false)
    (b1 : s[1].toNat < 256) (b2 : s[2].toNat < 256) (b3 : s[3].toNat < 256) (b4 : s[4].toNat < 256) (o1 : bits .or .i64 (s[2].toNat : Int) ((s[3].toNat : Int) * 256) = (m : Int))
    (j1 : (1 : Int) < (s.size : Int)) (j2 : (2 : Int) < (s.size : Int)) (j3 : (3 : Int) < (s.size : Int)) (j4 : (4 : Int) < (s.size : Int)) (j6 : (6 : Int) ≤ (s.size : Int))
    (f1 : bits .and .i64 ((s[4].toNat : Int) / 8) 7 = (HI : Int)) (f2 : bits .and .i64 (s[4].toNat : Int) 7 = (LO : Int)) (f3 : (s[4].toNat : Int) / 64 = (T : Int))
    (dT : (TX.toList == (s.extract 0 6).toList) = true)
    (HT : Hid (∀ W, Calls Tryz.prog 98 #[.agg #[.int .i64 s[1].toNat, .int .i64 m, .int .i64 s[4].toNat]] W fun e w' => e = .returned (.string TX) ∧ Below W.heap.size W w'))
    (HC : Hid (∀ W, Calls Tryz.prog 99 #[.int .i64 T, .int .i64 s[1].toNat] W fun e w' => e = .returned (.bool true) ∧ w' = W))
    (hold : Hid (∀ W', Below ((((w.alloc (.cells #[.int .i64 0, .int .i64 0, .int .i64 0, .int .i64 0, .string ⟨#[]⟩] 80)).alloc (.cells #[.int .i64 s[1].toNat, .int .i64 m, .int .i64 s[4].toNat] 133)).drew).alloc (.cells #[.int .i64 T, .int .i64 HI, .int .i64 LO, .int .i64 0, .string ⟨#[]⟩] 80)).drew.heap.size ((((w.alloc (.cells #[.int .i64 0, .int .i64 0, .int .i64 0, .int .i64 0, .string ⟨#[]⟩] 80)).alloc (.cells #[.int .i64 s[1].toNat, .int .i64 m, .int .i64 s[4].toNat] 133)).drew).alloc (.cells #[.int .i64 T, .int .i64 HI, .int .i64 LO, .int .i64 0, .string ⟨#[]⟩] 80)).drew W' → (W'.cell? ⟨w.heap.size + 1, 0, none⟩ = some (.int .i64 s[1].toNat) ∧ W'.cell? ⟨w.heap.size + 1, 1, none⟩ = some (.int .i64 m) ∧ W'.cell? ⟨w.heap.size + 1, 2, none⟩ = some (.int .i64 s[4].toNat) ∧ W'.cell? ⟨w.heap.size + 1 + 1, 0, none⟩ = some (.int .i64 T)) ∧ Rg.Bk w.heap.size [.int .i64 0, .int .i64 0, .int .i64 0, .int .i64 0, .string ⟨#[]⟩] 80 W' ∧ Rg.Bk (w.heap.size + 1) [.int .i64 s[1].toNat, .int .i64 m, .int .i64 s[4].toNat] 133 W' ∧ Rg.Bk (w.heap.size + 1 + 1) [.int .i64 T, .int .i64 HI, .int .i64 LO, .int .i64 0, .string ⟨#[]⟩] 80 W' ∧ Below w.heap.size w W')) (i0 : (((w.alloc (.cells #[.int .i64 0, .int .i64 0, .int .i64 0, .int .i64 0, .string ⟨#[]⟩] 80)).alloc (.cells #[.int .i64 s[1].toNat, .int .i64 m, .int .i64 s[4].toNat] 133)).alloc (.cells #[.int .i64 T, .int .i64 HI, .int .i64 LO, .int .i64 0, .string ⟨#[]⟩] 80)).cell? ⟨w.heap.size + 1, 0, none⟩ = some (.int .i64 s[1].toNat)) (i1 : (((w.alloc (.cells #[.int .i64 0, .int .i64 0, .int .i64 0, .int .i64 0, .string ⟨#[]⟩] 80)).alloc (.cells #[.int .i64 s[1].toNat, .int .i64 m, .int .i64 s[4].toNat] 133)).alloc (.cells #[.int .i64 T, .int .i64 HI, .int .i64 LO, .int .i64 0, .string ⟨#[]⟩] 80)).cell? ⟨w.heap.size + 1, 1, none⟩ = some (.int .i64 m)) (i2 : (((w.alloc (.cells #[.int .i64 0, .int .i64 0, .int .i64 0, .int .i64 0, .string ⟨#[]⟩] 80)).alloc (.cells #[.int .i64 s[1].toNat, .int .i64 m, .int .i64 s[4].toNat] 133)).alloc (.cells #[.int .i64 T, .int .i64 HI, .int .i64 LO, .int .i64 0, .string ⟨#[]⟩] 80)).cell? ⟨w.heap.size + 1, 2, none⟩ = some (.int .i64 s[4].toNat)) (n0 : (((w.alloc (.cells #[.int .i64 0, .int .i64 0, .int .i64 0, .int .i64 0, .string ⟨#[]⟩] 80)).alloc (.cells #[.int .i64 s[1].toNat, .int .i64 m, .int .i64 s[4].toNat] 133)).alloc (.cells #[.int .i64 T, .int .i64 HI, .int .i64 LO, .int .i64 0, .string ⟨#[]⟩] 80)).cell? ⟨w.heap.size + 1 + 1, 0, none⟩ = some (.int .i64 T)) (z : Nat) (D : ByteArray) (E : Nat) (N : Nat) (hN : (6 : Int) + (z : Int) = (N : Int)) (hz : z ≤ 4096)
    (dZ : ((T : Int) == 0) = false) (HS : Hid (∀ W, Calls Tryz.prog 101 #[.int .i64 s[1].toNat] W fun e w' => e = .returned (.int .i64 z) ∧ w' = W))
    (HB : Hid (∀ W, Calls Tryz.prog 102 #[.string (s.extract 6 s.size), .agg #[.int .i64 s[1].toNat, .int .i64 m, .int .i64 s[4].toNat], .int .i64 T] W fun e w' => e = .returned (.tuple #[.string D, .int .i64 E]) ∧ Below W.heap.size W w'))
    (hE : ((E : Int) == 0) = true) :
    Calls Tryz.prog 77 #[.string s] w fun e w' => e = .returned (Gf.resV (.ok (⟨T, HI, LO, z, D.data.toList⟩, N))) ∧ Below w.heap.size w w' := by
  go_enter Tryz.func77, Tryz.ntmps77
  go_upto_region 7 with fail
  go_big_region
  go_upto_region 9 with fail
  refine wp_region_held_drew (S := (fun w' => w'.cell? ⟨w.heap.size + 1, 0, none⟩ = some (.int .i64 s[1].toNat) ∧ w'.cell? ⟨w.heap.size + 1, 1, none⟩ = some (.int .i64 m) ∧ w'.cell? ⟨w.heap.size + 1, 2, none⟩ = some (.int .i64 s[4].toNat) ∧ w'.cell? ⟨w.heap.size + 1 + 1, 0, none⟩ = some (.int .i64 T))) (by kernel_rfl) ?_ (fun hH0 => ?_)
  · go_keep
  refine wpAnyH_take (i := 0) (oi := { dst := some 45, op := Op.load 133 (Operand.tmp 5), type := 133, pos := _, after := #[], guard := none }) (v := ?_) rfl (by kernel_rfl) (by kernel_rfl) (by kernel_rfl) (fun _ _ _ h => h) (Or.inl ⟨by rfl, ?_⟩) (by assumption) ?_
  rotate_left
  · (intro w hSw; (try dsimp only at hSw); go_simp); (try with_reducible rfl)
  simp only [Act.put, List.setIfInBounds_toArray, List.set_cons_zero, List.set_cons_succ]
  refine wpAnyH_take (i := 2) (oi := { dst := some 47, op := Op.move (Operand.tmp 0), type := 9, pos := _, after := #[], guard := none }) (v := ?_) rfl (by kernel_rfl) (by kernel_rfl) (by kernel_rfl) (fun _ _ _ h => h) (Or.inl ⟨by rfl, ?_⟩) (by assumption) ?_
  rotate_left
  · (intro w hSw; (try dsimp only at hSw); go_simp); (try with_reducible rfl)
  simp only [Act.put, List.setIfInBounds_toArray, List.set_cons_zero, List.set_cons_succ]
  refine wpAnyH_take (i := 3) (oi := { dst := some 48, op := Op.slice 9 (Operand.tmp 47) none (some (Operand.const (Value.int IntKind.i64 6))) none, type := 9, pos := _, after := #[{ on := 2, ground := Ground.data }], guard := none }) (v := ?_) rfl (by kernel_rfl) (by kernel_rfl) (by kernel_rfl) (fun _ _ _ h => h) (Or.inl ⟨by rfl, ?_⟩) (by assumption) ?_
  rotate_left
  · (intro w hSw; (try dsimp only at hSw); go_simp); (try with_reducible rfl)
  simp only [Act.put, List.setIfInBounds_toArray, List.set_cons_zero, List.set_cons_succ]
  refine wpAnyH_ready (rs := [1]) (by kernel_rfl) (by simp) ?_
  refine AllReadyH.cons (o := { dst := some 46, op := Op.call { callee := Callee.value (Operand.func 98), args := #[Operand.tmp 45], argTypes := #[133] }, type := 9, pos := _, after := #[{ on := 0, ground := Ground.data }], guard := none }) rfl (fun K hK => ?_) AllReadyH.nil
  go_simp
  go_at_call 98; refine (HT.out _).mono ?_; rintro e w2 ⟨rfl, b5⟩; obtain ⟨⟨p0, p1, p2, q0⟩, kR2, kH2, kF2, bR2⟩ := hold.out _ b5
  refine hK.out _ _ ?_ (fun hH1 => ?_)
  · go_keep
  clear hK K hH0
  refine wpAnyH_take (i := 4) (oi := { dst := some 49, op := Op.binOp BinOp.neq 9 (Operand.tmp 46) (Operand.tmp 48) 9, type := 4, pos := _, after := #[{ on := 1, ground := Ground.data }, { on := 3, ground := Ground.data }], guard := none }) (v := ?_) rfl (by kernel_rfl) (by kernel_rfl) (by kernel_rfl) (fun _ _ _ h => h) (Or.inl ⟨by rfl, ?_⟩) (by assumption) ?_
  rotate_left
  · (intro w hSw; (try dsimp only at hSw); go_simp); (try with_reducible rfl)
  simp only [Act.put, List.setIfInBounds_toArray, List.set_cons_zero, List.set_cons_succ]
  refine wpAnyH_take (i := 5) (oi := { dst := some 50, op := Op.move (Operand.tmp 49), type := 4, pos := _, after := #[{ on := 4, ground := Ground.data }, { on := 1, ground := Ground.chain }], guard := none }) (v := ?_) rfl (by kernel_rfl) (by kernel_rfl) (by kernel_rfl) (fun _ _ _ h => h) (Or.inl ⟨by rfl, ?_⟩) (by assumption) ?_
  rotate_left
  · (intro w hSw; (try dsimp only at hSw); go_simp); (try with_reducible rfl)
  simp only [Act.put, List.setIfInBounds_toArray, List.set_cons_zero, List.set_cons_succ]
  refine wpAnyH_take (i := 6) (oi := { dst := some 51, op := Op.fieldAddr 80 (Operand.tmp 6) 0, type := 0, pos := _, after := #[{ on := 5, ground := Ground.guard }], guard := some (5, false) }) (v := ?_) rfl (by kernel_rfl) (by kernel_rfl) (by kernel_rfl) (fun _ _ _ h => h) (Or.inl ⟨by rfl, ?_⟩) (by assumption) ?_
  rotate_left
  · (intro w hSw; (try dsimp only at hSw); go_simp); (try with_reducible rfl)
  simp only [Act.put, List.setIfInBounds_toArray, List.set_cons_zero, List.set_cons_succ]
  refine wpAnyH_take (i := 7) (oi := { dst := some 52, op := Op.load 3 (Operand.tmp 51), type := 3, pos := _, after := #[{ on := 6, ground := Ground.data }, { on := 5, ground := Ground.guard }], guard := some (5, false) }) (v := ?_) rfl (by kernel_rfl) (by kernel_rfl) (by kernel_rfl) (fun _ _ _ h => h) (Or.inl ⟨by rfl, ?_⟩) (by assumption) ?_
  rotate_left
  · (intro w hSw; (try dsimp only at hSw); go_simp); (try with_reducible rfl)
  simp only [Act.put, List.setIfInBounds_toArray, List.set_cons_zero, List.set_cons_succ]
  refine wpAnyH_take (i := 8) (oi := { dst := some 53, op := Op.fieldAddr 133 (Operand.tmp 5) 0, type := 0, pos := _, after := #[{ on := 5, ground := Ground.guard }], guard := some (5, false) }) (v := ?_) rfl (by kernel_rfl) (by kernel_rfl) (by kernel_rfl) (fun _ _ _ h => h) (Or.inl ⟨by rfl, ?_⟩) (by assumption) ?_
  rotate_left
  · (intro w hSw; (try dsimp only at hSw); go_simp); (try with_reducible rfl)
  simp only [Act.put, List.setIfInBounds_toArray, List.set_cons_zero, List.set_cons_succ]
  refine wpAnyH_take (i := 9) (oi := { dst := some 54, op := Op.load 3 (Operand.tmp 53), type := 3, pos := _, after := #[{ on := 8, ground := Ground.data }, { on := 5, ground := Ground.guard }], guard := some (5, false) }) (v := ?_) rfl (by kernel_rfl) (by kernel_rfl) (by kernel_rfl) (fun _ _ _ h => h) (Or.inl ⟨by rfl, ?_⟩) (by assumption) ?_
  rotate_left
  · (intro w hSw; (try dsimp only at hSw); go_simp); (try with_reducible rfl)
  simp only [Act.put, List.setIfInBounds_toArray, List.set_cons_zero, List.set_cons_succ]
  refine wpAnyH_ready (rs := [10]) (by kernel_rfl) (by simp) ?_
  refine AllReadyH.cons (o := { dst := some 55, op := Op.call { callee := Callee.value (Operand.func 99), args := #[Operand.tmp 52, Operand.tmp 54], argTypes := #[3, 3] }, type := 4, pos := _, after := #[{ on := 7, ground := Ground.data }, { on := 9, ground := Ground.data }, { on := 5, ground := Ground.chain }, { on := 5, ground := Ground.guard }], guard := some (5, false) }) rfl (fun K hK => ?_) AllReadyH.nil
  go_simp
  go_at_call 99; refine (HC.out _).mono ?_; rintro e w3 ⟨rfl, rfl⟩
  refine hK.out _ _ ?_ (fun hH10 => ?_)
  · go_keep
  clear hK K hH1
  refine wpAnyH_take (i := 11) (oi := { dst := some 56, op := Op.unOp UnOp.not 4 (Operand.tmp 55), type := 4, pos := _, after := #[{ on := 10, ground := Ground.data }, { on := 5, ground := Ground.guard }], guard := some (5, false) }) (v := ?_) rfl (by kernel_rfl) (by kernel_rfl) (by kernel_rfl) (fun _ _ _ h => h) (Or.inl ⟨by rfl, ?_⟩) (by assumption) ?_
  rotate_left
  · (intro w hSw; (try dsimp only at hSw); go_simp); (try with_reducible rfl)
  simp only [Act.put, List.setIfInBounds_toArray, List.set_cons_zero, List.set_cons_succ]
  refine wpAnyH_take (i := 12) (oi := { dst := some 57, op := Op.pick (Operand.tmp 50) (Operand.const (Value.bool true)) (Operand.tmp 56), type := 4, pos := _, after := #[{ on := 5, ground := Ground.data }, { on := 11, ground := Ground.data }], guard := none }) (v := ?_) rfl (by kernel_rfl) (by kernel_rfl) (by kernel_rfl) (fun _ _ _ h => h) (Or.inl ⟨by rfl, ?_⟩) (by assumption) ?_
  rotate_left
  · (intro w hSw; (try dsimp only at hSw); go_simp); (try with_reducible rfl)
  simp only [Act.put, List.setIfInBounds_toArray, List.set_cons_zero, List.set_cons_succ]
  refine wpAnyH_done (by kernel_rfl) ?_ _
  clear i0 i1 i2 n0
  have l0 := kH2.cell; have l1 := kF2.cell; have l2 := kF2.thaw; have l3 := kF2.lt
  go_upto_region 17 with (go_at_call 101; refine (HS.out _).mono ?_; rintro e w4 ⟨rfl, rfl⟩)
  clear l0 l1 l2 l3
  have kF5 : Rg.Bk (w.heap.size + 1 + 1) [.int .i64 T, .int .i64 HI, .int .i64 LO, .int .i64 z, .string ⟨#[]⟩] 80 _ := kF2.set 3 (.int .i64 z)
  have kH5 := kH2.other (c := w.heap.size + 1 + 1) (i := 3) (by omega) (.int .i64 z)
  have kR5 := kR2.other (c := w.heap.size + 1 + 1) (i := 3) (by omega) (.int .i64 z)
  have bR5 := bR2.setCell (p := ⟨w.heap.size + 1 + 1, 3, none⟩) (show w.heap.size ≤ w.heap.size + 1 + 1 by omega) (.int .i64 z)
  have u0 := kH5.cell 0; have u1 := kH5.cell 1; have u2 := kH5.cell 2; have v0 := kF5.cell 0
  simp only [List.getElem?_cons_zero, List.getElem?_cons_succ] at u0 u1 u2 v0
  generalize World.setCell _ _ _ = w5 at *
  refine wp_region_held_drew (S := (fun w' => w'.cell? ⟨w.heap.size + 1, 0, none⟩ = some (.int .i64 s[1].toNat) ∧ w'.cell? ⟨w.heap.size + 1, 1, none⟩ = some (.int .i64 m) ∧ w'.cell? ⟨w.heap.size + 1, 2, none⟩ = some (.int .i64 s[4].toNat) ∧ w'.cell? ⟨w.heap.size + 1 + 1, 0, none⟩ = some (.int .i64 T))) (by kernel_rfl) ?_ (fun hH0 => ?_)
  · go_keep
  refine wpAnyH_take (i := 0) (oi := { dst := some 75, op := Op.move (Operand.tmp 0), type := 9, pos := _, after := #[], guard := none }) (v := ?_) rfl (by kernel_rfl) (by kernel_rfl) (by kernel_rfl) (fun _ _ _ h => h) (Or.inl ⟨by rfl, ?_⟩) (by assumption) ?_
  rotate_left
  · (intro w hSw; (try dsimp only at hSw); go_simp); (try with_reducible rfl)
  simp only [Act.put, List.setIfInBounds_toArray, List.set_cons_zero, List.set_cons_succ]
  refine wpAnyH_take (i := 1) (oi := { dst := some 76, op := Op.slice 9 (Operand.tmp 75) (some (Operand.const (Value.int IntKind.i64 6))) none none, type := 9, pos := _, after := #[{ on := 0, ground := Ground.data }], guard := none }) (v := ?_) rfl (by kernel_rfl) (by kernel_rfl) (by kernel_rfl) (fun _ _ _ h => h) (Or.inl ⟨by rfl, ?_⟩) (by assumption) ?_
  rotate_left
  · (intro w hSw; (try dsimp only at hSw); go_simp); (try with_reducible rfl)
  simp only [Act.put, List.setIfInBounds_toArray, List.set_cons_zero, List.set_cons_succ]
  refine wpAnyH_take (i := 2) (oi := { dst := some 77, op := Op.load 133 (Operand.tmp 5), type := 133, pos := _, after := #[], guard := none }) (v := ?_) rfl (by kernel_rfl) (by kernel_rfl) (by kernel_rfl) (fun _ _ _ h => h) (Or.inl ⟨by rfl, ?_⟩) (by assumption) ?_
  rotate_left
  · (intro w hSw; (try dsimp only at hSw); go_simp); (try with_reducible rfl)
  simp only [Act.put, List.setIfInBounds_toArray, List.set_cons_zero, List.set_cons_succ]
  refine wpAnyH_take (i := 3) (oi := { dst := some 78, op := Op.fieldAddr 80 (Operand.tmp 6) 0, type := 0, pos := _, after := #[], guard := none }) (v := ?_) rfl (by kernel_rfl) (by kernel_rfl) (by kernel_rfl) (fun _ _ _ h => h) (Or.inl ⟨by rfl, ?_⟩) (by assumption) ?_
  rotate_left
  · (intro w hSw; (try dsimp only at hSw); go_simp); (try with_reducible rfl)
  simp only [Act.put, List.setIfInBounds_toArray, List.set_cons_zero, List.set_cons_succ]
  refine wpAnyH_take (i := 4) (oi := { dst := some 79, op := Op.load 3 (Operand.tmp 78), type := 3, pos := _, after := #[{ on := 3, ground := Ground.data }], guard := none }) (v := ?_) rfl (by kernel_rfl) (by kernel_rfl) (by kernel_rfl) (fun _ _ _ h => h) (Or.inl ⟨by rfl, ?_⟩) (by assumption) ?_
  rotate_left
  · (intro w hSw; (try dsimp only at hSw); go_simp); (try with_reducible rfl)
  simp only [Act.put, List.setIfInBounds_toArray, List.set_cons_zero, List.set_cons_succ]
  refine wpAnyH_ready (rs := [5]) (by kernel_rfl) (by simp) ?_
  refine AllReadyH.cons (o := { dst := some 80, op := Op.call { callee := Callee.value (Operand.func 102), args := #[Operand.tmp 76, Operand.tmp 77, Operand.tmp 79], argTypes := #[9, 133, 3] }, type := 106, pos := _, after := #[{ on := 1, ground := Ground.data }, { on := 2, ground := Ground.data }, { on := 4, ground := Ground.data }], guard := none }) rfl (fun K hK => ?_) AllReadyH.nil
  go_simp
  go_at_call 102; refine (HB.out _).mono ?_; rintro e w6 ⟨rfl, b6⟩; have kR6 := kR5.drew.below b6 kR5.lt; have kH6 := kH5.drew.below b6 kH5.lt; have kF6 := kF5.drew.below b6 kF5.lt; have bR6 := bR5.drew.trans (b6.mono (Nat.le_of_lt kR5.lt)); have u0 := kH6.cell 0; have u1 := kH6.cell 1; have u2 := kH6.cell 2; have v0 := kF6.cell; have v1 := kF6.thaw; have v2 := kF6.lt; simp only [List.getElem?_cons_zero, List.getElem?_cons_succ] at u0 u1 u2
  refine hK.out _ _ ?_ (fun hH5 => ?_)
  · go_keep
  clear hK K hH0
  refine wpAnyH_take (i := 6) (oi := { dst := some 74, op := Op.move (Operand.tmp 80), type := 106, pos := _, after := #[{ on := 5, ground := Ground.data }], guard := none }) (v := ?_) rfl (by kernel_rfl) (by kernel_rfl) (by kernel_rfl) (fun _ _ _ h => h) (Or.inl ⟨by rfl, ?_⟩) (by assumption) ?_
  rotate_left
  · (intro w hSw; (try dsimp only at hSw); go_simp); (try with_reducible rfl)
  simp only [Act.put, List.setIfInBounds_toArray, List.set_cons_zero, List.set_cons_succ]
  refine wpAnyH_take (i := 7) (oi := { dst := some 81, op := Op.extract (Operand.tmp 74) 0, type := 9, pos := _, after := #[{ on := 6, ground := Ground.data }], guard := none }) (v := ?_) rfl (by kernel_rfl) (by kernel_rfl) (by kernel_rfl) (fun _ _ _ h => h) (Or.inl ⟨by rfl, ?_⟩) (by assumption) ?_
  rotate_left
  · (intro w hSw; (try dsimp only at hSw); go_simp); (try with_reducible rfl)
  simp only [Act.put, List.setIfInBounds_toArray, List.set_cons_zero, List.set_cons_succ]
  refine wpAnyH_take (i := 8) (oi := { dst := some 82, op := Op.extract (Operand.tmp 74) 1, type := 30, pos := _, after := #[{ on := 6, ground := Ground.data }, { on := 10, ground := Ground.gcOnly Departure.lateStores }], guard := none }) (v := ?_) rfl (by kernel_rfl) (by kernel_rfl) (by kernel_rfl) (fun _ _ _ h => h) (Or.inl ⟨by rfl, ?_⟩) (by assumption) ?_
  rotate_left
  · (intro w hSw; (try dsimp only at hSw); go_simp); (try with_reducible rfl)
  simp only [Act.put, List.setIfInBounds_toArray, List.set_cons_zero, List.set_cons_succ]
  refine wpAnyH_take (i := 9) (oi := { dst := some 83, op := Op.fieldAddr 80 (Operand.tmp 6) 4, type := 0, pos := _, after := #[{ on := 0, ground := Ground.phase }, { on := 1, ground := Ground.phase }, { on := 2, ground := Ground.phase }, { on := 3, ground := Ground.phase }, { on := 4, ground := Ground.phase }, { on := 5, ground := Ground.phase }, { on := 6, ground := Ground.phase }, { on := 7, ground := Ground.phase }, { on := 8, ground := Ground.textOnly Departure.lateStores }], guard := none }) (v := ?_) rfl (by kernel_rfl) (by kernel_rfl) (by kernel_rfl) (fun _ _ _ h => h) (Or.inl ⟨by rfl, ?_⟩) (by assumption) ?_
  rotate_left
  · (intro w hSw; (try dsimp only at hSw); go_simp); (try with_reducible rfl)
  simp only [Act.put, List.setIfInBounds_toArray, List.set_cons_zero, List.set_cons_succ]
  refine wpAnyH_ready (rs := [10]) (by kernel_rfl) (by simp) ?_
  refine AllReadyH.cons (o := { dst := none, op := Op.store 9 (Operand.tmp 83) (Operand.tmp 81), type := 0, pos := _, after := #[{ on := 9, ground := Ground.data }, { on := 7, ground := Ground.data }, { on := 5, ground := Ground.chain }, { on := 0, ground := Ground.phase }, { on := 1, ground := Ground.phase }, { on := 2, ground := Ground.phase }, { on := 3, ground := Ground.phase }, { on := 4, ground := Ground.phase }, { on := 5, ground := Ground.phase }, { on := 6, ground := Ground.phase }, { on := 7, ground := Ground.phase }, { on := 8, ground := Ground.textOnly Departure.lateStores }], guard := none }) rfl (fun K hK => ?_) AllReadyH.nil
  go_simp
  refine hK.out _ _ ?_ (fun hH10 => ?_)
  · exact ⟨(kH6.other (by omega) _).cell 0, (kH6.other (by omega) _).cell 1, (kH6.other (by omega) _).cell 2, (kF6.set 4 _).cell 0⟩
  clear hK K hH5
  refine wpAnyH_take (i := 11) (oi := { dst := some 7, op := Op.assign (Operand.tmp 82), type := 30, pos := _, after := #[{ on := 8, ground := Ground.data }, { on := 10, ground := Ground.chain }, { on := 0, ground := Ground.phase }, { on := 1, ground := Ground.phase }, { on := 2, ground := Ground.phase }, { on := 3, ground := Ground.phase }, { on := 4, ground := Ground.phase }, { on := 5, ground := Ground.phase }, { on := 6, ground := Ground.phase }, { on := 7, ground := Ground.phase }, { on := 8, ground := Ground.phase }, { on := 9, ground := Ground.phase }, { on := 10, ground := Ground.phase }], guard := none }) (v := ?_) rfl (by kernel_rfl) (by kernel_rfl) (by kernel_rfl) (fun _ _ _ h => h) (Or.inl ⟨by rfl, ?_⟩) (by assumption) ?_
  rotate_left
  · (intro w hSw; (try dsimp only at hSw); go_simp); (try with_reducible rfl)
  simp only [Act.put, List.setIfInBounds_toArray, List.set_cons_zero, List.set_cons_succ]
  refine wpAnyH_done (by kernel_rfl) ?_ _
  have kF7 : Rg.Bk (w.heap.size + 1 + 1) [.int .i64 T, .int .i64 HI, .int .i64 LO, .int .i64 z, .string D] 80 _ := kF6.set 4 (.string D)
  have kR7 := kR6.other (c := w.heap.size + 1 + 1) (i := 4) (by omega) (.string D)
  have bR7 := bR6.setCell (p := ⟨w.heap.size + 1 + 1, 4, none⟩) (show w.heap.size ≤ w.heap.size + 1 + 1 by omega) (.string D)
  clear u0 u1 u2 v0 v1 v2
  generalize World.setCell _ _ _ = w7 at *
  have cR := kR7.cell; have fR := kR7.thaw; have zR := kR7.lt
  have cF := kF7.cell; have zF := kF7.lt
  go_upto_region 20 with fail
  go_big_region
  have hk := Rg.ret5 kR7 rfl (.int .i64 T) (.int .i64 HI) (.int .i64 LO) (.int .i64 z) (.string D)
  go_wp2
  clear cR fR zR cF zF
  generalize World.setCell _ _ _ = WE at *
  obtain ⟨kE, oE⟩ := hk
  have cE := kE.cell
  exact bodyPost_ret (v := Gf.resV (.ok (⟨T, HI, LO, z, D.data.toList⟩, N))) (by simp [results, Tryz.results77, go_sem, cE, Gf.resV]) rfl ⟨rfl, by first | exact bR7.trans (oE.bel (Nat.le_refl _)) | exact (bR7.trans (oE.bel (Nat.le_refl _))).drew⟩
end Go.Proofs.YtfiffbohhhehkaaGreat
