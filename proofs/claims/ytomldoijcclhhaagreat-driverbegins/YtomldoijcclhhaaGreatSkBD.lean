/-
  Layer 16: the document's Put of 2 and 1 bytes, its sync, its Begin; Begin's refusal.
-/
import Derived.Test.YtomldoijcclhhaaGreatSkBA
import Derived.Test.YtomldoijcclhhaaGreatSkAC
import Derived.Test.YtomldoijcclhhaaGreatSkBC
namespace Go.Proofs.YtomldoijcclhhaaGreat
open Go.RowKit
def izD : Gp.Dr := ⟨0, 0, false, 0, 0, 0, Wn.zero, 0, [], [], 0, [], 0, 0, []⟩
theorem izDH (Kp : Nat → Prop) (W : World) : IDH Kp W izD #[.int .i64 0, .int .i64 0, .bool false, .int .i64 0, .int .i64 0, .int .i64 0, .int .i64 0, .int .i64 0, .int .i64 0, .slice none 0 0, .int .i64 0, .slice none 0 0, .string ⟨#[]⟩, .int .i64 0, .slice none 0 0, .int .i64 0, .int .i64 0, .slice none 0 0] := ⟨⟨none, 0, none, 0, none, 0, none, 0⟩, rfl, ⟨.inl rfl, .inl rfl, .inl rfl, .inl rfl⟩, Nat.le_refl _, Nat.zero_le _, Nat.zero_le _, Nat.zero_le _, .inl rfl, .inl rfl, .inl rfl, .inl rfl⟩
set_option maxHeartbeats 400000 in
theorem irput2_any (q : Nat) (hq : q < 65536) (w : World) :
    Calls Tryz.prog 81 #[.int .i64 q, .int .i64 2] w fun e w' => e = .returned (.tuple #[.string ⟨([UInt8.ofNat (q / 256), UInt8.ofNat (q % 256)] : List UInt8).toArray⟩, .int .i64 0]) ∧ Below w.heap.size w w' := by
  have hr : Hid (([UInt8.ofNat (q / 256), UInt8.ofNat (q % 256)] : List UInt8) = Oct.rights 2 (Oct.putF q)) := (If.rights2 q).symm
  have d0 : decide ((q : Int) < 0) = false := by simp
  have d1 : decide ((65536 : Int) ≤ (q : Int)) = false := by simp; omega
  have hlt : (q : Int) < 65536 := by omega
  go_enter Tryz.func81, Tryz.ntmps81
  go_wp2
  go_loopw [25] (fun i wr => ∃ k : Nat, k ≤ 2 ∧ i = .int .i64 k ∧ wr.heap[w.heap.size]? = some (.cells (Oct.cells (Oct.fill 4 2 (Oct.putF q) k)) 112 (0, 0)) ∧ Below w.heap.size w wr) (fun i _ => 2 - (intOf i).toNat)
  case atStart =>
    exact ⟨0, Nat.zero_le _, rfl, (MapKept.heap_alloc w _).1.trans (by rw [Oct.fill_zero]; rfl), (Below.refl _ _).alloc (Nat.le_refl _) _⟩
  case round =>
    obtain ⟨k, hk, rfl, hb, hbl⟩ := hrel
    have hB : Hid (wr.heap[w.heap.size]? = some (.cells (Oct.cells (Oct.fill 4 2 (Oct.putF q) k)) 112 (0, 0))) := hb
    clear hb
    have hcase : k = 0 ∨ k = 1 ∨ k = 2 := by omega
    rcases hcase with rfl | rfl | rfl
    · obtain ⟨v, hc⟩ : ∃ v, wr.cell? ⟨w.heap.size, 1, none⟩ = some v := ⟨_, (Lib.cell_of_heap hB.out 1).trans (Oct.cells_at _ _ (by rw [Oct.fill_length]; omega))⟩
      have hf : wr.frozen? ⟨w.heap.size, 1, none⟩ = false := Lib.frozen_of_heap hB.out _
      go_wp2
      refine ⟨⟨1, by omega, rfl, (Lib.heap_setCell_same hB.out _).trans ?_, hbl.setCell (p := ⟨w.heap.size, 1, none⟩) (Nat.le_refl _) _⟩, by simp [intOf]⟩
      exact congrArg (fun c => some (Obj.cells c 112 (0, 0))) (Oct.put_step 4 q 2 0 (by omega) _ (by omega))
    · obtain ⟨v, hc⟩ : ∃ v, wr.cell? ⟨w.heap.size, 0, none⟩ = some v := ⟨_, (Lib.cell_of_heap hB.out 0).trans (Oct.cells_at _ _ (by rw [Oct.fill_length]; omega))⟩
      have hf : wr.frozen? ⟨w.heap.size, 0, none⟩ = false := Lib.frozen_of_heap hB.out _
      go_wp2
      refine ⟨⟨2, by omega, rfl, (Lib.heap_setCell_same hB.out _).trans ?_, hbl.setCell (p := ⟨w.heap.size, 0, none⟩) (Nat.le_refl _) _⟩, by simp [intOf]⟩
      exact congrArg (fun c => some (Obj.cells c 112 (0, 0))) (Oct.put_step 4 q 2 1 (by omega) _ (by omega))
    · have hcv := run_convert_bytes_back (P := Tryz.prog) wr 65 9 5 ⟨w.heap.size, 0, none⟩ 4 (Oct.rights 2 (Oct.putF q)) Tryz.underlying65 Tryz.underlying5 Tryz.underlying9 (Oct.put_cells hB.out (by omega))
      rw [Oct.rights_length] at hcv
      go_wp2
      go_ret2
      exact ⟨ret_se (by rw [hr.out]) rfl, hbl⟩
set_option maxHeartbeats 400000 in
theorem irput1_any (q : Nat) (hq : q < 256) (w : World) :
    Calls Tryz.prog 81 #[.int .i64 q, .int .i64 1] w fun e w' => e = .returned (.tuple #[.string ⟨([UInt8.ofNat q] : List UInt8).toArray⟩, .int .i64 0]) ∧ Below w.heap.size w w' := by
  have hr : Hid (([UInt8.ofNat q] : List UInt8) = Oct.rights 1 (Oct.putF q)) := (If.rights1 q).symm
  have d0 : decide ((q : Int) < 0) = false := by simp
  have d1 : decide ((256 : Int) ≤ (q : Int)) = false := by simp; omega
  have hlt : (q : Int) < 256 := by omega
  go_enter Tryz.func81, Tryz.ntmps81
  go_wp2
  go_loopw [25] (fun i wr => ∃ k : Nat, k ≤ 1 ∧ i = .int .i64 k ∧ wr.heap[w.heap.size]? = some (.cells (Oct.cells (Oct.fill 4 1 (Oct.putF q) k)) 112 (0, 0)) ∧ Below w.heap.size w wr) (fun i _ => 1 - (intOf i).toNat)
  case atStart =>
    exact ⟨0, Nat.zero_le _, rfl, (MapKept.heap_alloc w _).1.trans (by rw [Oct.fill_zero]; rfl), (Below.refl _ _).alloc (Nat.le_refl _) _⟩
  case round =>
    obtain ⟨k, hk, rfl, hb, hbl⟩ := hrel
    have hB : Hid (wr.heap[w.heap.size]? = some (.cells (Oct.cells (Oct.fill 4 1 (Oct.putF q) k)) 112 (0, 0))) := hb
    clear hb
    have hcase : k = 0 ∨ k = 1 := by omega
    rcases hcase with rfl | rfl
    · obtain ⟨v, hc⟩ : ∃ v, wr.cell? ⟨w.heap.size, 0, none⟩ = some v := ⟨_, (Lib.cell_of_heap hB.out 0).trans (Oct.cells_at _ _ (by rw [Oct.fill_length]; omega))⟩
      have hf : wr.frozen? ⟨w.heap.size, 0, none⟩ = false := Lib.frozen_of_heap hB.out _
      go_wp2
      refine ⟨⟨1, by omega, rfl, (Lib.heap_setCell_same hB.out _).trans ?_, hbl.setCell (p := ⟨w.heap.size, 0, none⟩) (Nat.le_refl _) _⟩, by simp [intOf]⟩
      exact congrArg (fun c => some (Obj.cells c 112 (0, 0))) (Oct.put_step 4 q 1 0 (by omega) _ (by omega))
    · have hcv := run_convert_bytes_back (P := Tryz.prog) wr 65 9 5 ⟨w.heap.size, 0, none⟩ 4 (Oct.rights 1 (Oct.putF q)) Tryz.underlying65 Tryz.underlying5 Tryz.underlying9 (Oct.put_cells hB.out (by omega))
      rw [Oct.rights_length] at hcv
      go_wp2
      go_ret2
      exact ⟨ret_se (by rw [hr.out]) rfl, hbl⟩
set_option maxHeartbeats 2000000 in
set_option maxRecDepth 100000 in
theorem irlast_0 (ca : Bool) (z ro : Int) (w : World) : Calls Tryz.prog 112 #[.agg #[.int .i64 105, .int .i64 1, .bool ca, .int .i64 0, .int .i64 z, .int .i64 ro, .int .i64 0, .int .i64 0, .int .i64 0, .slice none 0 0, .int .i64 1, .slice none 0 0, .string ⟨#[]⟩, .int .i64 0, .slice none 0 0, .int .i64 0, .int .i64 0, .slice none 0 0]] w fun e w' => e = .returned (.int .i64 0) ∧ Below w.heap.size w w' := by
  have b0 := Rg.hid (Rg.al1 w (.cells #[.int .i64 105, .int .i64 1, .bool ca, .int .i64 0, .int .i64 z, .int .i64 ro, .int .i64 0, .int .i64 0, .int .i64 0, .slice none 0 0, .int .i64 1, .slice none 0 0, .string ⟨#[]⟩, .int .i64 0, .slice none 0 0, .int .i64 0, .int .i64 0, .slice none 0 0] 29))
  have k0 : Hid (Rg.Bk w.heap.size [.int .i64 105, .int .i64 1, .bool ca, .int .i64 0, .int .i64 z, .int .i64 ro, .int .i64 0, .int .i64 0, .int .i64 0, .slice none 0 0, .int .i64 1, .slice none 0 0, .string ⟨#[]⟩, .int .i64 0, .slice none 0 0, .int .i64 0, .int .i64 0, .slice none 0 0] 29 (w.alloc (.cells #[.int .i64 105, .int .i64 1, .bool ca, .int .i64 0, .int .i64 z, .int .i64 ro, .int .i64 0, .int .i64 0, .int .i64 0, .slice none 0 0, .int .i64 1, .slice none 0 0, .string ⟨#[]⟩, .int .i64 0, .slice none 0 0, .int .i64 0, .int .i64 0, .slice none 0 0] 29))) := Rg.Bk.new rfl
  go_enter Tryz.func112, Tryz.ntmps112
  go_upto_region 1 with fail
  generalize World.alloc _ _ = w1 at *
  obtain ⟨B, hB⟩ : ∃ B, B = w.heap.size := ⟨_, rfl⟩
  rw [← hB] at k0 ⊢
  have c10 : w1.cell? ⟨B, 10, none⟩ = some (.int .i64 1) := k0.out.cell 10
  clear hB k0
  go_wp2
  go_ret
  exact ⟨rfl, b0.out⟩
set_option maxHeartbeats 4000000 in
set_option maxRecDepth 100000 in
theorem irsay_sync (ca : Bool) (z ro : Int) (D X : ByteArray) (w : World) (hX : Hid (X = ⟨(If.wr ⟨1, 0, 0, 0, ca, D.data.toList⟩).1.toArray⟩)) :
    Calls Tryz.prog 82 #[.agg #[.int .i64 105, .int .i64 1, .bool ca, .int .i64 0, .int .i64 z, .int .i64 ro, .int .i64 0, .int .i64 0, .int .i64 0, .slice none 0 0, .int .i64 1, .slice none 0 0, .string ⟨#[]⟩, .int .i64 0, .slice none 0 0, .int .i64 0, .int .i64 0, .slice none 0 0], .int .i64 1, .int .i64 0, .int .i64 0, .string D] w fun e w' => e = .returned (.string X) ∧ Below w.heap.size w w' := by
  have kE0 : Hid (Rg.Bk w.heap.size [.int .i64 105, .int .i64 1, .bool ca, .int .i64 0, .int .i64 z, .int .i64 ro, .int .i64 0, .int .i64 0, .int .i64 0, .slice none 0 0, .int .i64 1, .slice none 0 0, .string ⟨#[]⟩, .int .i64 0, .slice none 0 0, .int .i64 0, .int .i64 0, .slice none 0 0] 29 (w.alloc (.cells #[.int .i64 105, .int .i64 1, .bool ca, .int .i64 0, .int .i64 z, .int .i64 ro, .int .i64 0, .int .i64 0, .int .i64 0, .slice none 0 0, .int .i64 1, .slice none 0 0, .string ⟨#[]⟩, .int .i64 0, .slice none 0 0, .int .i64 0, .int .i64 0, .slice none 0 0] 29))) := Rg.Bk.new rfl
  have b0 := Rg.hid (Rg.al1 w (.cells #[.int .i64 105, .int .i64 1, .bool ca, .int .i64 0, .int .i64 z, .int .i64 ro, .int .i64 0, .int .i64 0, .int .i64 0, .slice none 0 0, .int .i64 1, .slice none 0 0, .string ⟨#[]⟩, .int .i64 0, .slice none 0 0, .int .i64 0, .int .i64 0, .slice none 0 0] 29))
  have hD : Hid (∀ W : World, IDH (fun _ => True) W (Ip.begin_ ca z ro) #[.int .i64 105, .int .i64 1, .bool ca, .int .i64 0, .int .i64 z, .int .i64 ro, .int .i64 0, .int .i64 0, .int .i64 0, .slice none 0 0, .int .i64 1, .slice none 0 0, .string ⟨#[]⟩, .int .i64 0, .slice none 0 0, .int .i64 0, .int .i64 0, .slice none 0 0]) := fun W => ⟨⟨none, 0, none, 0, none, 0, none, 0⟩, rfl, ⟨.inl rfl, .inl rfl, .inl rfl, .inl rfl⟩, Nat.le_refl _, Nat.zero_le _, Nat.zero_le _, Nat.zero_le _, .inl rfl, .inl rfl, .inl rfl, .inl rfl⟩
  have HL := Rg.hid (fun W => irlast_0 ca z ro W)
  have HW : Hid (∀ W, Calls Tryz.prog 111 #[.agg #[.int .i64 1, .int .i64 0, .int .i64 0, .int .i64 0, .bool ca, .string D]] W fun e w' => e = .returned (.tuple #[.string X, .int .i64 ((If.wr ⟨1, 0, 0, 0, ca, D.data.toList⟩).2 : Nat)]) ∧ Below W.heap.size W w') := fun W => by rw [hX.out]; exact rwrite_any 1 0 0 0 ca D W
  generalize (If.wr ⟨1, 0, 0, 0, ca, D.data.toList⟩).2 = E at HW
  go_enter Tryz.func82, Tryz.ntmps82
  go_upto_region 1 with fail
  generalize World.alloc _ _ = w2 at *
  obtain ⟨eb, heb⟩ : ∃ eb, eb = w.heap.size := ⟨_, rfl⟩
  rw [← heb] at kE0 ⊢
  clear heb
  obtain ⟨CD, hCD⟩ : ∃ CD : Array Value, CD = #[.int .i64 105, .int .i64 1, .bool ca, .int .i64 0, .int .i64 z, .int .i64 ro, .int .i64 0, .int .i64 0, .int .i64 0, .slice none 0 0, .int .i64 1, .slice none 0 0, .string ⟨#[]⟩, .int .i64 0, .slice none 0 0, .int .i64 0, .int .i64 0, .slice none 0 0] := ⟨_, rfl⟩
  rw [← hCD] at HL hD
  have eL : [.int .i64 105, .int .i64 1, .bool ca, .int .i64 0, .int .i64 z, .int .i64 ro, .int .i64 0, .int .i64 0, .int .i64 0, .slice none 0 0, .int .i64 1, .slice none 0 0, .string ⟨#[]⟩, .int .i64 0, .slice none 0 0, .int .i64 0, .int .i64 0, .slice none 0 0] = CD.toList := by rw [hCD]
  rw [eL] at kE0
  replace hD := Rg.hid (hD.out w2)
  replace hCD := Rg.hid hCD
  replace HL := Rg.hid (HL.out w2.drew)
  clear eL hX
  refine wp_region_held_drew (S := (fun (w' : World) => Rg.Bk eb CD.toList 29 w')) (by kernel_rfl) ?_ (fun hH0 => ?_)
  · exact kE0.out
  refine wpAnyH_take (i := 0) (oi := { dst := some 14, op := _, type := _, pos := _, after := _, guard := _ }) (v := ?_) rfl (by kernel_rfl) (by kernel_rfl) (by kernel_rfl) (fun _ _ _ h => h) (Or.inl ⟨by rfl, ?_⟩) (by assumption) ?_
  rotate_left
  · (intro w hSw; clear hSw; go_simp); (try with_reducible rfl)
  simp only [Act.put, List.setIfInBounds_toArray, List.set_cons_zero, List.set_cons_succ]
  refine wpAnyH_take (i := 1) (oi := { dst := some 15, op := _, type := _, pos := _, after := _, guard := _ }) (v := ?_) rfl (by kernel_rfl) (by kernel_rfl) (by kernel_rfl) (fun _ _ _ h => h) (Or.inl ⟨by rfl, ?_⟩) (by assumption) ?_
  rotate_left
  · (intro w hSw; clear hSw; go_simp); (try with_reducible rfl)
  simp only [Act.put, List.setIfInBounds_toArray, List.set_cons_zero, List.set_cons_succ]
  refine wpAnyH_take (i := 2) (oi := { dst := some 16, op := _, type := _, pos := _, after := _, guard := _ }) (v := .agg CD) rfl (by kernel_rfl) (by kernel_rfl) (by kernel_rfl) (fun _ _ _ h => h) (Or.inl ⟨by rfl, fun w hSw => iexec_load_row _ _ rfl rfl (hD.out.load hSw)⟩) (by assumption) ?_
  simp only [Act.put, List.setIfInBounds_toArray, List.set_cons_zero, List.set_cons_succ]
  refine wpAnyH_take (i := 4) (oi := { dst := some 18, op := _, type := _, pos := _, after := _, guard := _ }) (v := ?_) rfl (by kernel_rfl) (by kernel_rfl) (by kernel_rfl) (fun _ _ _ h => h) (Or.inl ⟨by rfl, ?_⟩) (by assumption) ?_
  rotate_left
  · (intro w hSw; clear hSw; go_simp); (try with_reducible rfl)
  simp only [Act.put, List.setIfInBounds_toArray, List.set_cons_zero, List.set_cons_succ]
  refine wpAnyH_take (i := 5) (oi := { dst := some 19, op := _, type := _, pos := _, after := _, guard := _ }) (v := ?_) rfl (by kernel_rfl) (by kernel_rfl) (by kernel_rfl) (fun _ _ _ h => h) (Or.inl ⟨by rfl, ?_⟩) (by assumption) ?_
  rotate_left
  · (intro w hSw; clear hSw; go_simp); (try with_reducible rfl)
  simp only [Act.put, List.setIfInBounds_toArray, List.set_cons_zero, List.set_cons_succ]
  refine wpAnyH_take (i := 6) (oi := { dst := some 20, op := _, type := _, pos := _, after := _, guard := _ }) (v := .bool ca) rfl (by kernel_rfl) (by kernel_rfl) (by kernel_rfl) (fun _ _ _ h => h) (Or.inl ⟨by rfl, ?_⟩) (by assumption) ?_
  · intro w hSw; have c2 : w.cell? ⟨eb, 2, none⟩ = some (.bool ca) := (by have := Rg.Bk.cell hSw 2; rw [hCD.out] at this; exact this); clear hSw; go_simp; (try with_reducible rfl)
  simp only [Act.put, List.setIfInBounds_toArray, List.set_cons_zero, List.set_cons_succ]
  refine wpAnyH_take (i := 7) (oi := { dst := some 21, op := _, type := _, pos := _, after := _, guard := _ }) (v := ?_) rfl (by kernel_rfl) (by kernel_rfl) (by kernel_rfl) (fun _ _ _ h => h) (Or.inl ⟨by rfl, ?_⟩) (by assumption) ?_
  rotate_left
  · (intro w hSw; clear hSw; go_simp); (try with_reducible rfl)
  simp only [Act.put, List.setIfInBounds_toArray, List.set_cons_zero, List.set_cons_succ]
  refine wpAnyH_ready (rs := [3]) (by kernel_rfl) (by simp) ?_
  refine AllReadyH.cons (o := { dst := some 17, op := _, type := _, pos := _, after := _, guard := _ }) rfl (fun K hK => ?_) AllReadyH.nil
  go_simp
  go_at_call 112; refine HL.out.mono ?_; rintro e w5 ⟨rfl, hb5⟩
  refine hK.out _ _ ?_ (fun hH3 => ?_)
  · exact kE0.out.drew.below hb5 kE0.out.lt
  clear hK K hH0
  try simp only [Act.put, List.setIfInBounds_toArray, List.set_cons_zero, List.set_cons_succ]
  refine wpAnyH_take (i := 8) (oi := { dst := some 22, op := _, type := _, pos := _, after := _, guard := _ }) (v := ?_) rfl (by kernel_rfl) (by kernel_rfl) (by kernel_rfl) (fun _ _ _ h => h) (Or.inl ⟨by rfl, ?_⟩) (by assumption) ?_
  rotate_left
  · (intro w hSw; clear hSw; go_simp); (try with_reducible rfl)
  simp only [Act.put, List.setIfInBounds_toArray, List.set_cons_zero, List.set_cons_succ]
  refine wpAnyH_ready (rs := [9]) (by kernel_rfl) (by simp) ?_
  refine AllReadyH.cons (o := { dst := some 23, op := _, type := _, pos := _, after := _, guard := _ }) rfl (fun K hK => ?_) AllReadyH.nil
  go_simp
  go_at_call 111; refine (HW.out w5).mono ?_; rintro e w6 ⟨rfl, hb6⟩
  refine hK.out _ _ ?_ (fun hH9 => ?_)
  · exact (kE0.out.drew.below hb5 kE0.out.lt).below hb6 (Nat.lt_of_lt_of_le kE0.out.lt hb5.size)
  clear hK K hH3
  try simp only [Act.put, List.setIfInBounds_toArray, List.set_cons_zero, List.set_cons_succ]
  refine wpAnyH_take (i := 10) (oi := { dst := some 13, op := _, type := _, pos := _, after := _, guard := _ }) (v := ?_) rfl (by kernel_rfl) (by kernel_rfl) (by kernel_rfl) (fun _ _ _ h => h) (Or.inl ⟨by rfl, ?_⟩) (by assumption) ?_
  rotate_left
  · (intro w hSw; clear hSw; go_simp); (try with_reducible rfl)
  simp only [Act.put, List.setIfInBounds_toArray, List.set_cons_zero, List.set_cons_succ]
  refine wpAnyH_take (i := 11) (oi := { dst := some 24, op := _, type := _, pos := _, after := _, guard := _ }) (v := ?_) rfl (by kernel_rfl) (by kernel_rfl) (by kernel_rfl) (fun _ _ _ h => h) (Or.inl ⟨by rfl, ?_⟩) (by assumption) ?_
  rotate_left
  · (intro w hSw; clear hSw; go_simp); (try with_reducible rfl)
  simp only [Act.put, List.setIfInBounds_toArray, List.set_cons_zero, List.set_cons_succ]
  refine wpAnyH_take (i := 12) (oi := { dst := some 25, op := _, type := _, pos := _, after := _, guard := _ }) (v := ?_) rfl (by kernel_rfl) (by kernel_rfl) (by kernel_rfl) (fun _ _ _ h => h) (Or.inl ⟨by rfl, ?_⟩) (by assumption) ?_
  rotate_left
  · (intro w hSw; clear hSw; go_simp); (try with_reducible rfl)
  simp only [Act.put, List.setIfInBounds_toArray, List.set_cons_zero, List.set_cons_succ]
  refine wpAnyH_take (i := 13) (oi := { dst := some 11, op := _, type := _, pos := _, after := _, guard := _ }) (v := ?_) rfl (by kernel_rfl) (by kernel_rfl) (by kernel_rfl) (fun _ _ _ h => h) (Or.inl ⟨by rfl, ?_⟩) (by assumption) ?_
  rotate_left
  · (intro w hSw; clear hSw; go_simp); (try with_reducible rfl)
  simp only [Act.put, List.setIfInBounds_toArray, List.set_cons_zero, List.set_cons_succ]
  refine wpAnyH_take (i := 14) (oi := { dst := some 12, op := _, type := _, pos := _, after := _, guard := _ }) (v := ?_) rfl (by kernel_rfl) (by kernel_rfl) (by kernel_rfl) (fun _ _ _ h => h) (Or.inl ⟨by rfl, ?_⟩) (by assumption) ?_
  rotate_left
  · (intro w hSw; clear hSw; go_simp); (try with_reducible rfl)
  simp only [Act.put, List.setIfInBounds_toArray, List.set_cons_zero, List.set_cons_succ]
  refine wpAnyH_done (by kernel_rfl) ?_ _
  have hbel := Rg.hid (Rg.chain (Rg.chain b0.out ((Below.drew (Below.refl _ _)).trans hb5)) hb6)
  clear hH9 hb5 hb6 kE0 HL HW b0
  go_wp2
  go_ret
  exact ⟨rfl, hbel.out⟩
set_option maxHeartbeats 4000000 in
set_option maxRecDepth 100000 in
theorem irsync_go (ca : Bool) (z ro : Int) (A B AB X : ByteArray) (w : World) (hA : A.size ≤ 2) (hB : B.size ≤ 1) (hAB : A ++ B = AB)
    (H2 : Hid (∀ W, Calls Tryz.prog 81 #[.int .i64 z, .int .i64 2] W fun e w' => e = .returned (.tuple #[.string A, .int .i64 0]) ∧ Below W.heap.size W w')) (H1 : Hid (∀ W, Calls Tryz.prog 81 #[.int .i64 ro, .int .i64 1] W fun e w' => e = .returned (.tuple #[.string B, .int .i64 0]) ∧ Below W.heap.size W w'))
    (HS : Hid (∀ W, Calls Tryz.prog 82 #[.agg #[.int .i64 105, .int .i64 1, .bool ca, .int .i64 0, .int .i64 z, .int .i64 ro, .int .i64 0, .int .i64 0, .int .i64 0, .slice none 0 0, .int .i64 1, .slice none 0 0, .string ⟨#[]⟩, .int .i64 0, .slice none 0 0, .int .i64 0, .int .i64 0, .slice none 0 0], .int .i64 1, .int .i64 0, .int .i64 0, .string AB] W fun e w' => e = .returned (.string X) ∧ Below W.heap.size W w')) :
    Calls Tryz.prog 41 #[.agg #[.int .i64 105, .int .i64 1, .bool ca, .int .i64 0, .int .i64 z, .int .i64 ro, .int .i64 0, .int .i64 0, .int .i64 0, .slice none 0 0, .int .i64 1, .slice none 0 0, .string ⟨#[]⟩, .int .i64 0, .slice none 0 0, .int .i64 0, .int .i64 0, .slice none 0 0]] w fun e w' => e = .returned (.string X) ∧ Below w.heap.size w w' := by
  have kE0 : Hid (Rg.Bk w.heap.size [.int .i64 105, .int .i64 1, .bool ca, .int .i64 0, .int .i64 z, .int .i64 ro, .int .i64 0, .int .i64 0, .int .i64 0, .slice none 0 0, .int .i64 1, .slice none 0 0, .string ⟨#[]⟩, .int .i64 0, .slice none 0 0, .int .i64 0, .int .i64 0, .slice none 0 0] 29 (w.alloc (.cells #[.int .i64 105, .int .i64 1, .bool ca, .int .i64 0, .int .i64 z, .int .i64 ro, .int .i64 0, .int .i64 0, .int .i64 0, .slice none 0 0, .int .i64 1, .slice none 0 0, .string ⟨#[]⟩, .int .i64 0, .slice none 0 0, .int .i64 0, .int .i64 0, .slice none 0 0] 29))) := Rg.Bk.new rfl
  have b0 := Rg.hid (Rg.al1 w (.cells #[.int .i64 105, .int .i64 1, .bool ca, .int .i64 0, .int .i64 z, .int .i64 ro, .int .i64 0, .int .i64 0, .int .i64 0, .slice none 0 0, .int .i64 1, .slice none 0 0, .string ⟨#[]⟩, .int .i64 0, .slice none 0 0, .int .i64 0, .int .i64 0, .slice none 0 0] 29))
  have hD : Hid (∀ W : World, IDH (fun _ => True) W (Ip.begin_ ca z ro) #[.int .i64 105, .int .i64 1, .bool ca, .int .i64 0, .int .i64 z, .int .i64 ro, .int .i64 0, .int .i64 0, .int .i64 0, .slice none 0 0, .int .i64 1, .slice none 0 0, .string ⟨#[]⟩, .int .i64 0, .slice none 0 0, .int .i64 0, .int .i64 0, .slice none 0 0]) := fun W => ⟨⟨none, 0, none, 0, none, 0, none, 0⟩, rfl, ⟨.inl rfl, .inl rfl, .inl rfl, .inl rfl⟩, Nat.le_refl _, Nat.zero_le _, Nat.zero_le _, Nat.zero_le _, .inl rfl, .inl rfl, .inl rfl, .inl rfl⟩
  have hsz : A.size + B.size ≤ 10 := by omega
  go_enter Tryz.func41, Tryz.ntmps41
  go_upto_region 1 with fail
  generalize World.alloc _ _ = w2 at *
  obtain ⟨eb, heb⟩ : ∃ eb, eb = w.heap.size := ⟨_, rfl⟩
  rw [← heb] at kE0 ⊢
  clear heb
  have c4 : w2.cell? ⟨eb, 4, none⟩ = some (.int .i64 z) := kE0.out.cell 4
  go_upto_region 2 with (go_at_call 81; refine (H2.out _).mono ?_; rintro e w3 ⟨rfl, b3⟩)
  have kE3 := Rg.hid (kE0.out.below b3 kE0.out.lt)
  have c5 : w3.cell? ⟨eb, 5, none⟩ = some (.int .i64 ro) := kE3.out.cell 5
  have b03 := Rg.hid (Rg.chain b0.out b3)
  clear c4 kE0 b0 b3 H2
  go_upto_region 3 with (go_at_call 81; refine (H1.out _).mono ?_; rintro e w4 ⟨rfl, b4⟩)
  have kE4 := Rg.hid (kE3.out.below b4 kE3.out.lt)
  have b04 := Rg.hid (Rg.chain b03.out b4)
  have hld := Rg.hid ((hD.out w4).load kE4.out)
  clear c5 kE3 b03 b4 H1 hD kE4
  go_wp2_with (first | (with_reducible refine is_load (.tmp 1) 29 ?_; refine list_load (.tmp 1) 29 rfl hld.out ?_) | (go_at_call 82; refine (HS.out _).mono ?_; rintro e w5 ⟨rfl, b5⟩))
  go_ret
  exact ⟨rfl, Rg.chain b04.out b5⟩
theorem irsync_any (ca : Bool) (z ro : Int) (w : World) (h1 : 1 ≤ z ∧ z ≤ 4095) (h2 : 1 ≤ ro ∧ ro ≤ 16) : Calls Tryz.prog 41 #[.agg #[.int .i64 105, .int .i64 1, .bool ca, .int .i64 0, .int .i64 z, .int .i64 ro, .int .i64 0, .int .i64 0, .int .i64 0, .slice none 0 0, .int .i64 1, .slice none 0 0, .string ⟨#[]⟩, .int .i64 0, .slice none 0 0, .int .i64 0, .int .i64 0, .slice none 0 0]] w fun e w' => e = .returned (.string ⟨(Ip.sync (Ip.begin_ ca z ro)).toArray⟩) ∧ Below w.heap.size w w' := by
  obtain ⟨q, rfl⟩ : ∃ q : Nat, z = q := ⟨z.toNat, by omega⟩
  obtain ⟨r, rfl⟩ : ∃ r : Nat, ro = r := ⟨ro.toNat, by omega⟩
  refine irsync_go ca q r ⟨([UInt8.ofNat (q / 256), UInt8.ofNat (q % 256)] : List UInt8).toArray⟩ ⟨([UInt8.ofNat r] : List UInt8).toArray⟩ ⟨[UInt8.ofNat (q / 256), UInt8.ofNat (q % 256), UInt8.ofNat r].toArray⟩ _ w (Nat.le_refl 2) (Nat.le_refl 1) (Ip.cat_bytes _ _) (fun W => irput2_any q (by omega) W) (fun W => irput1_any r (by omega) W) (fun W => ?_)
  refine irsay_sync ca q r _ _ W ?_
  show _ = _
  have hok : If.ok (Ip.syncF (Ip.begin_ ca q r)) := Ip.sync_ok _ (by show (0 : Int) ≤ 1 ∧ (1 : Int) ≤ 31; omega)
  have e : (If.wr ⟨1, 0, 0, 0, ca, [UInt8.ofNat (q / 256), UInt8.ofNat (q % 256), UInt8.ofNat r]⟩).1 = Ip.sync (Ip.begin_ ca q r) := by
    show (If.wr (Ip.syncF (Ip.begin_ ca q r))).1 = _
    rw [If.wr_ok hok]
    rfl
  show (⟨(Ip.sync (Ip.begin_ ca q r)).toArray⟩ : ByteArray) = ⟨(If.wr ⟨1, 0, 0, 0, ca, [UInt8.ofNat (q / 256), UInt8.ofNat (q % 256), UInt8.ofNat r]⟩).1.toArray⟩
  rw [e]
set_option maxHeartbeats 4000000 in
set_option maxRecDepth 100000 in
theorem ibegin_no0 (ca : Bool) (z ro : Int) (w : World) (HM : Hid (∀ W, Calls Tryz.prog 73 #[.int .i64 z, .int .i64 ro] W fun e w' => e = .returned (.bool false) ∧ w' = W)) : Calls Tryz.prog 61 #[.bool ca, .int .i64 z, .int .i64 ro] w fun e w' => e = .returned (.tuple #[.agg #[.int .i64 0, .int .i64 0, .bool false, .int .i64 0, .int .i64 0, .int .i64 0, .int .i64 0, .int .i64 0, .int .i64 0, .slice none 0 0, .int .i64 0, .slice none 0 0, .string ⟨#[]⟩, .int .i64 0, .slice none 0 0, .int .i64 0, .int .i64 0, .slice none 0 0], .string ⟨#[]⟩, .int .i64 1]) ∧ Below w.heap.size w w' := by
  have kR0 : Hid (Rg.Bk w.heap.size [.int .i64 0, .int .i64 0, .bool false, .int .i64 0, .int .i64 0, .int .i64 0, .int .i64 0, .int .i64 0, .int .i64 0, .slice none 0 0, .int .i64 0, .slice none 0 0, .string ⟨#[]⟩, .int .i64 0, .slice none 0 0, .int .i64 0, .int .i64 0, .slice none 0 0] 29 (w.alloc (.cells #[.int .i64 0, .int .i64 0, .bool false, .int .i64 0, .int .i64 0, .int .i64 0, .int .i64 0, .int .i64 0, .int .i64 0, .slice none 0 0, .int .i64 0, .slice none 0 0, .string ⟨#[]⟩, .int .i64 0, .slice none 0 0, .int .i64 0, .int .i64 0, .slice none 0 0] 29))) := Rg.Bk.new rfl
  have hb0 := Rg.hid (Rg.al1 w (.cells #[.int .i64 0, .int .i64 0, .bool false, .int .i64 0, .int .i64 0, .int .i64 0, .int .i64 0, .int .i64 0, .int .i64 0, .slice none 0 0, .int .i64 0, .slice none 0 0, .string ⟨#[]⟩, .int .i64 0, .slice none 0 0, .int .i64 0, .int .i64 0, .slice none 0 0] 29))
  obtain ⟨R, hR⟩ : ∃ R, R = w.heap.size := ⟨_, rfl⟩
  go_enter Tryz.func61, Tryz.ntmps61
  go_upto_region 1 with fail
  generalize World.alloc _ _ = w1 at *
  rw [← hR] at kR0 ⊢
  have hRw : Hid (w.heap.size ≤ R) := by show _ ≤ _; omega
  clear hR
  obtain ⟨w2, st2, k2, o2⟩ := IDH.over (Kp := fun _ => True) (izDH _ w1) (izDH (fun _ => True) w1) kR0.out
  have hres := Rg.hid ((izDH (fun _ => True) w1).load k2.out)
  have hfe : Hid (Below w.heap.size w w2) := hb0.out.trans (o2.out.bel hRw.out)
  clear kR0 hb0 k2 o2
  go_upto_region 2 with (go_at_call 73; refine (HM.out _).mono ?_; rintro e w3 ⟨rfl, hw⟩; obtain rfl := hw.symm)
  go_wp2_with (with_reducible refine is_store (.tmp 6) (.tmp 14) 29 ?_; refine list_store (.tmp 6) (.tmp 14) 29 rfl rfl st2.out ?_)
  exact bodyPost_ret (v := .tuple #[.agg #[.int .i64 0, .int .i64 0, .bool false, .int .i64 0, .int .i64 0, .int .i64 0, .int .i64 0, .int .i64 0, .int .i64 0, .slice none 0 0, .int .i64 0, .slice none 0 0, .string ⟨#[]⟩, .int .i64 0, .slice none 0 0, .int .i64 0, .int .i64 0, .slice none 0 0], .string ⟨#[]⟩, .int .i64 1]) (iresults_row3 rfl rfl rfl rfl hres.out) rfl ⟨rfl, hfe.out⟩
set_option maxHeartbeats 4000000 in
set_option maxRecDepth 100000 in
theorem irbegin_n1 (ca : Bool) (z ro : Int) (w : World) (d1 : decide (z < 1) = true) : Calls Tryz.prog 17 #[.bool ca, .int .i64 z, .int .i64 ro] w fun e w' => e = .returned (.tuple #[.agg #[.int .i64 0, .int .i64 0, .bool false, .int .i64 0, .int .i64 0, .int .i64 0, .int .i64 0, .int .i64 0, .int .i64 0, .slice none 0 0, .int .i64 0, .slice none 0 0, .string ⟨#[]⟩, .int .i64 0, .slice none 0 0, .int .i64 0, .int .i64 0, .slice none 0 0], .string ⟨#[]⟩, .int .i64 1]) ∧ Below w.heap.size w w' := by
  have kR0 : Hid (Rg.Bk w.heap.size [.int .i64 0, .int .i64 0, .bool false, .int .i64 0, .int .i64 0, .int .i64 0, .int .i64 0, .int .i64 0, .int .i64 0, .slice none 0 0, .int .i64 0, .slice none 0 0, .string ⟨#[]⟩, .int .i64 0, .slice none 0 0, .int .i64 0, .int .i64 0, .slice none 0 0] 29 (w.alloc (.cells #[.int .i64 0, .int .i64 0, .bool false, .int .i64 0, .int .i64 0, .int .i64 0, .int .i64 0, .int .i64 0, .int .i64 0, .slice none 0 0, .int .i64 0, .slice none 0 0, .string ⟨#[]⟩, .int .i64 0, .slice none 0 0, .int .i64 0, .int .i64 0, .slice none 0 0] 29))) := Rg.Bk.new rfl
  have hb0 := Rg.hid (Rg.al1 w (.cells #[.int .i64 0, .int .i64 0, .bool false, .int .i64 0, .int .i64 0, .int .i64 0, .int .i64 0, .int .i64 0, .int .i64 0, .slice none 0 0, .int .i64 0, .slice none 0 0, .string ⟨#[]⟩, .int .i64 0, .slice none 0 0, .int .i64 0, .int .i64 0, .slice none 0 0] 29))
  obtain ⟨R, hR⟩ : ∃ R, R = w.heap.size := ⟨_, rfl⟩
  go_enter Tryz.func17, Tryz.ntmps17
  go_upto_region 1 with fail
  generalize World.alloc _ _ = w1 at *
  rw [← hR] at kR0 ⊢
  have hRw : Hid (w.heap.size ≤ R) := by show _ ≤ _; omega
  clear hR
  obtain ⟨w2, st2, k2, o2⟩ := IDH.over (Kp := fun _ => True) (izDH _ w1) (izDH (fun _ => True) w1) kR0.out
  have hres := Rg.hid ((izDH (fun _ => True) w1).load k2.out)
  have hfe : Hid (Below w.heap.size w w2) := hb0.out.trans (o2.out.bel hRw.out)
  clear kR0 hb0 k2 o2
  go_upto_region 2 with fail
  go_wp2_with (with_reducible refine is_store (.tmp 6) (.tmp 24) 29 ?_; refine list_store (.tmp 6) (.tmp 24) 29 rfl rfl st2.out ?_)
  exact bodyPost_ret (v := .tuple #[.agg #[.int .i64 0, .int .i64 0, .bool false, .int .i64 0, .int .i64 0, .int .i64 0, .int .i64 0, .int .i64 0, .int .i64 0, .slice none 0 0, .int .i64 0, .slice none 0 0, .string ⟨#[]⟩, .int .i64 0, .slice none 0 0, .int .i64 0, .int .i64 0, .slice none 0 0], .string ⟨#[]⟩, .int .i64 1]) (iresults_row3 rfl rfl rfl rfl hres.out) rfl ⟨rfl, hfe.out⟩
set_option maxHeartbeats 4000000 in
set_option maxRecDepth 100000 in
theorem irbegin_n2 (ca : Bool) (z ro : Int) (w : World) (d1 : decide (z < 1) = false) (d2 : decide (4096 ≤ z) = true) : Calls Tryz.prog 17 #[.bool ca, .int .i64 z, .int .i64 ro] w fun e w' => e = .returned (.tuple #[.agg #[.int .i64 0, .int .i64 0, .bool false, .int .i64 0, .int .i64 0, .int .i64 0, .int .i64 0, .int .i64 0, .int .i64 0, .slice none 0 0, .int .i64 0, .slice none 0 0, .string ⟨#[]⟩, .int .i64 0, .slice none 0 0, .int .i64 0, .int .i64 0, .slice none 0 0], .string ⟨#[]⟩, .int .i64 1]) ∧ Below w.heap.size w w' := by
  have kR0 : Hid (Rg.Bk w.heap.size [.int .i64 0, .int .i64 0, .bool false, .int .i64 0, .int .i64 0, .int .i64 0, .int .i64 0, .int .i64 0, .int .i64 0, .slice none 0 0, .int .i64 0, .slice none 0 0, .string ⟨#[]⟩, .int .i64 0, .slice none 0 0, .int .i64 0, .int .i64 0, .slice none 0 0] 29 (w.alloc (.cells #[.int .i64 0, .int .i64 0, .bool false, .int .i64 0, .int .i64 0, .int .i64 0, .int .i64 0, .int .i64 0, .int .i64 0, .slice none 0 0, .int .i64 0, .slice none 0 0, .string ⟨#[]⟩, .int .i64 0, .slice none 0 0, .int .i64 0, .int .i64 0, .slice none 0 0] 29))) := Rg.Bk.new rfl
  have hb0 := Rg.hid (Rg.al1 w (.cells #[.int .i64 0, .int .i64 0, .bool false, .int .i64 0, .int .i64 0, .int .i64 0, .int .i64 0, .int .i64 0, .int .i64 0, .slice none 0 0, .int .i64 0, .slice none 0 0, .string ⟨#[]⟩, .int .i64 0, .slice none 0 0, .int .i64 0, .int .i64 0, .slice none 0 0] 29))
  obtain ⟨R, hR⟩ : ∃ R, R = w.heap.size := ⟨_, rfl⟩
  go_enter Tryz.func17, Tryz.ntmps17
  go_upto_region 1 with fail
  generalize World.alloc _ _ = w1 at *
  rw [← hR] at kR0 ⊢
  have hRw : Hid (w.heap.size ≤ R) := by show _ ≤ _; omega
  clear hR
  obtain ⟨w2, st2, k2, o2⟩ := IDH.over (Kp := fun _ => True) (izDH _ w1) (izDH (fun _ => True) w1) kR0.out
  have hres := Rg.hid ((izDH (fun _ => True) w1).load k2.out)
  have hfe : Hid (Below w.heap.size w w2) := hb0.out.trans (o2.out.bel hRw.out)
  clear kR0 hb0 k2 o2
  go_upto_region 2 with fail
  go_wp2_with (with_reducible refine is_store (.tmp 6) (.tmp 24) 29 ?_; refine list_store (.tmp 6) (.tmp 24) 29 rfl rfl st2.out ?_)
  exact bodyPost_ret (v := .tuple #[.agg #[.int .i64 0, .int .i64 0, .bool false, .int .i64 0, .int .i64 0, .int .i64 0, .int .i64 0, .int .i64 0, .int .i64 0, .slice none 0 0, .int .i64 0, .slice none 0 0, .string ⟨#[]⟩, .int .i64 0, .slice none 0 0, .int .i64 0, .int .i64 0, .slice none 0 0], .string ⟨#[]⟩, .int .i64 1]) (iresults_row3 rfl rfl rfl rfl hres.out) rfl ⟨rfl, hfe.out⟩
set_option maxHeartbeats 4000000 in
set_option maxRecDepth 100000 in
theorem irbegin_n3 (ca : Bool) (z ro : Int) (w : World) (d1 : decide (z < 1) = false) (d2 : decide (4096 ≤ z) = false) (d3 : decide (ro < 1) = true) : Calls Tryz.prog 17 #[.bool ca, .int .i64 z, .int .i64 ro] w fun e w' => e = .returned (.tuple #[.agg #[.int .i64 0, .int .i64 0, .bool false, .int .i64 0, .int .i64 0, .int .i64 0, .int .i64 0, .int .i64 0, .int .i64 0, .slice none 0 0, .int .i64 0, .slice none 0 0, .string ⟨#[]⟩, .int .i64 0, .slice none 0 0, .int .i64 0, .int .i64 0, .slice none 0 0], .string ⟨#[]⟩, .int .i64 1]) ∧ Below w.heap.size w w' := by
  have kR0 : Hid (Rg.Bk w.heap.size [.int .i64 0, .int .i64 0, .bool false, .int .i64 0, .int .i64 0, .int .i64 0, .int .i64 0, .int .i64 0, .int .i64 0, .slice none 0 0, .int .i64 0, .slice none 0 0, .string ⟨#[]⟩, .int .i64 0, .slice none 0 0, .int .i64 0, .int .i64 0, .slice none 0 0] 29 (w.alloc (.cells #[.int .i64 0, .int .i64 0, .bool false, .int .i64 0, .int .i64 0, .int .i64 0, .int .i64 0, .int .i64 0, .int .i64 0, .slice none 0 0, .int .i64 0, .slice none 0 0, .string ⟨#[]⟩, .int .i64 0, .slice none 0 0, .int .i64 0, .int .i64 0, .slice none 0 0] 29))) := Rg.Bk.new rfl
  have hb0 := Rg.hid (Rg.al1 w (.cells #[.int .i64 0, .int .i64 0, .bool false, .int .i64 0, .int .i64 0, .int .i64 0, .int .i64 0, .int .i64 0, .int .i64 0, .slice none 0 0, .int .i64 0, .slice none 0 0, .string ⟨#[]⟩, .int .i64 0, .slice none 0 0, .int .i64 0, .int .i64 0, .slice none 0 0] 29))
  obtain ⟨R, hR⟩ : ∃ R, R = w.heap.size := ⟨_, rfl⟩
  go_enter Tryz.func17, Tryz.ntmps17
  go_upto_region 1 with fail
  generalize World.alloc _ _ = w1 at *
  rw [← hR] at kR0 ⊢
  have hRw : Hid (w.heap.size ≤ R) := by show _ ≤ _; omega
  clear hR
  obtain ⟨w2, st2, k2, o2⟩ := IDH.over (Kp := fun _ => True) (izDH _ w1) (izDH (fun _ => True) w1) kR0.out
  have hres := Rg.hid ((izDH (fun _ => True) w1).load k2.out)
  have hfe : Hid (Below w.heap.size w w2) := hb0.out.trans (o2.out.bel hRw.out)
  clear kR0 hb0 k2 o2
  go_upto_region 2 with fail
  go_wp2_with (with_reducible refine is_store (.tmp 6) (.tmp 24) 29 ?_; refine list_store (.tmp 6) (.tmp 24) 29 rfl rfl st2.out ?_)
  exact bodyPost_ret (v := .tuple #[.agg #[.int .i64 0, .int .i64 0, .bool false, .int .i64 0, .int .i64 0, .int .i64 0, .int .i64 0, .int .i64 0, .int .i64 0, .slice none 0 0, .int .i64 0, .slice none 0 0, .string ⟨#[]⟩, .int .i64 0, .slice none 0 0, .int .i64 0, .int .i64 0, .slice none 0 0], .string ⟨#[]⟩, .int .i64 1]) (iresults_row3 rfl rfl rfl rfl hres.out) rfl ⟨rfl, hfe.out⟩
set_option maxHeartbeats 4000000 in
set_option maxRecDepth 100000 in
theorem irbegin_n4 (ca : Bool) (z ro : Int) (w : World) (d1 : decide (z < 1) = false) (d2 : decide (4096 ≤ z) = false) (d3 : decide (ro < 1) = false) (d4 : decide (16 < ro) = true) : Calls Tryz.prog 17 #[.bool ca, .int .i64 z, .int .i64 ro] w fun e w' => e = .returned (.tuple #[.agg #[.int .i64 0, .int .i64 0, .bool false, .int .i64 0, .int .i64 0, .int .i64 0, .int .i64 0, .int .i64 0, .int .i64 0, .slice none 0 0, .int .i64 0, .slice none 0 0, .string ⟨#[]⟩, .int .i64 0, .slice none 0 0, .int .i64 0, .int .i64 0, .slice none 0 0], .string ⟨#[]⟩, .int .i64 1]) ∧ Below w.heap.size w w' := by
  have kR0 : Hid (Rg.Bk w.heap.size [.int .i64 0, .int .i64 0, .bool false, .int .i64 0, .int .i64 0, .int .i64 0, .int .i64 0, .int .i64 0, .int .i64 0, .slice none 0 0, .int .i64 0, .slice none 0 0, .string ⟨#[]⟩, .int .i64 0, .slice none 0 0, .int .i64 0, .int .i64 0, .slice none 0 0] 29 (w.alloc (.cells #[.int .i64 0, .int .i64 0, .bool false, .int .i64 0, .int .i64 0, .int .i64 0, .int .i64 0, .int .i64 0, .int .i64 0, .slice none 0 0, .int .i64 0, .slice none 0 0, .string ⟨#[]⟩, .int .i64 0, .slice none 0 0, .int .i64 0, .int .i64 0, .slice none 0 0] 29))) := Rg.Bk.new rfl
  have hb0 := Rg.hid (Rg.al1 w (.cells #[.int .i64 0, .int .i64 0, .bool false, .int .i64 0, .int .i64 0, .int .i64 0, .int .i64 0, .int .i64 0, .int .i64 0, .slice none 0 0, .int .i64 0, .slice none 0 0, .string ⟨#[]⟩, .int .i64 0, .slice none 0 0, .int .i64 0, .int .i64 0, .slice none 0 0] 29))
  obtain ⟨R, hR⟩ : ∃ R, R = w.heap.size := ⟨_, rfl⟩
  go_enter Tryz.func17, Tryz.ntmps17
  go_upto_region 1 with fail
  generalize World.alloc _ _ = w1 at *
  rw [← hR] at kR0 ⊢
  have hRw : Hid (w.heap.size ≤ R) := by show _ ≤ _; omega
  clear hR
  obtain ⟨w2, st2, k2, o2⟩ := IDH.over (Kp := fun _ => True) (izDH _ w1) (izDH (fun _ => True) w1) kR0.out
  have hres := Rg.hid ((izDH (fun _ => True) w1).load k2.out)
  have hfe : Hid (Below w.heap.size w w2) := hb0.out.trans (o2.out.bel hRw.out)
  clear kR0 hb0 k2 o2
  go_upto_region 2 with fail
  go_wp2_with (with_reducible refine is_store (.tmp 6) (.tmp 24) 29 ?_; refine list_store (.tmp 6) (.tmp 24) 29 rfl rfl st2.out ?_)
  exact bodyPost_ret (v := .tuple #[.agg #[.int .i64 0, .int .i64 0, .bool false, .int .i64 0, .int .i64 0, .int .i64 0, .int .i64 0, .int .i64 0, .int .i64 0, .slice none 0 0, .int .i64 0, .slice none 0 0, .string ⟨#[]⟩, .int .i64 0, .slice none 0 0, .int .i64 0, .int .i64 0, .slice none 0 0], .string ⟨#[]⟩, .int .i64 1]) (iresults_row3 rfl rfl rfl rfl hres.out) rfl ⟨rfl, hfe.out⟩
theorem iisIn_no {n a b : Int} (h : ¬ (a ≤ n ∧ n ≤ b)) (w : World) : Calls Tryz.prog 76 #[.int .i64 n, .int .i64 a, .int .i64 b] w fun e w' => e = .returned (.bool false) ∧ w' = w := by
  by_cases h1 : a ≤ n
  · have d1 : decide (a ≤ n) = true := by simpa using h1
    have d2 : decide (n ≤ b) = false := by simp; omega
    go_enter Tryz.func76, Tryz.ntmps76
    go_wp2
    go_ret
    exact ⟨rfl, rfl⟩
  · have d1 : decide (a ≤ n) = false := by simp; omega
    go_enter Tryz.func76, Tryz.ntmps76
    go_wp2
    go_ret
    exact ⟨rfl, rfl⟩
set_option maxHeartbeats 1000000 in
theorem imayBe_n1 (z r : Int) (w : World) (HZ : Hid (∀ W, Calls Tryz.prog 76 #[.int .i64 z, .int .i64 1, .int .i64 4095] W fun e w' => e = .returned (.bool false) ∧ w' = W)) : Calls Tryz.prog 73 #[.int .i64 z, .int .i64 r] w fun e w' => e = .returned (.bool false) ∧ w' = w := by
  go_enter Tryz.func73, Tryz.ntmps73
  go_wp2_with (go_at_call 76; refine (HZ.out _).mono ?_; rintro e w1 ⟨rfl, hw⟩; obtain rfl := hw.symm)
  go_ret
  exact ⟨rfl, rfl⟩
set_option maxHeartbeats 1000000 in
theorem imayBe_n2 (z r : Int) (w : World) (HZ : Hid (∀ W, Calls Tryz.prog 76 #[.int .i64 z, .int .i64 1, .int .i64 4095] W fun e w' => e = .returned (.bool true) ∧ w' = W)) (HR : Hid (∀ W, Calls Tryz.prog 76 #[.int .i64 r, .int .i64 1, .int .i64 16] W fun e w' => e = .returned (.bool false) ∧ w' = W)) : Calls Tryz.prog 73 #[.int .i64 z, .int .i64 r] w fun e w' => e = .returned (.bool false) ∧ w' = w := by
  go_enter Tryz.func73, Tryz.ntmps73
  go_wp2_with (go_at_call 76; (first | with_reducible refine (HZ.out _).mono ?_ | with_reducible refine (HR.out _).mono ?_); rintro e w1 ⟨rfl, hw⟩; obtain rfl := hw.symm)
  go_ret
  exact ⟨rfl, rfl⟩
theorem imayBe_no {z r : Int} (h : ¬ ((1 ≤ z ∧ z ≤ 4095) ∧ 1 ≤ r ∧ r ≤ 16)) (w : World) : Calls Tryz.prog 73 #[.int .i64 z, .int .i64 r] w fun e w' => e = .returned (.bool false) ∧ w' = w := by
  by_cases h1 : 1 ≤ z ∧ z ≤ 4095
  · exact imayBe_n2 z r w (iisIn_true h1.1 h1.2) (iisIn_no fun h2 => h ⟨h1, h2⟩)
  · exact imayBe_n1 z r w (iisIn_no h1)
theorem ibegin_no (ca : Bool) (z ro : Int) (w : World) (h : ¬ ((1 ≤ z ∧ z ≤ 4095) ∧ 1 ≤ ro ∧ ro ≤ 16)) : Calls Tryz.prog 61 #[.bool ca, .int .i64 z, .int .i64 ro] w fun e w' => e = .returned (.tuple #[.agg #[.int .i64 0, .int .i64 0, .bool false, .int .i64 0, .int .i64 0, .int .i64 0, .int .i64 0, .int .i64 0, .int .i64 0, .slice none 0 0, .int .i64 0, .slice none 0 0, .string ⟨#[]⟩, .int .i64 0, .slice none 0 0, .int .i64 0, .int .i64 0, .slice none 0 0], .string ⟨#[]⟩, .int .i64 1]) ∧ Below w.heap.size w w' := ibegin_no0 ca z ro w (fun W => imayBe_no h W)
theorem irbegin_no (ca : Bool) (z ro : Int) (w : World) (h : ¬ ((1 ≤ z ∧ z ≤ 4095) ∧ 1 ≤ ro ∧ ro ≤ 16)) : Calls Tryz.prog 17 #[.bool ca, .int .i64 z, .int .i64 ro] w fun e w' => e = .returned (.tuple #[.agg #[.int .i64 0, .int .i64 0, .bool false, .int .i64 0, .int .i64 0, .int .i64 0, .int .i64 0, .int .i64 0, .int .i64 0, .slice none 0 0, .int .i64 0, .slice none 0 0, .string ⟨#[]⟩, .int .i64 0, .slice none 0 0, .int .i64 0, .int .i64 0, .slice none 0 0], .string ⟨#[]⟩, .int .i64 1]) ∧ Below w.heap.size w w' := by
  by_cases h1 : z < 1
  · exact irbegin_n1 ca z ro w (by simpa using h1)
  by_cases h2 : 4096 ≤ z
  · exact irbegin_n2 ca z ro w (by simpa using h1) (by simpa using h2)
  by_cases h3 : ro < 1
  · exact irbegin_n3 ca z ro w (by simpa using h1) (by simpa using h2) (by simpa using h3)
  · exact irbegin_n4 ca z ro w (by simpa using h1) (by simpa using h2) (by simpa using h3) (by simp; omega)
set_option maxHeartbeats 4000000 in
set_option maxRecDepth 100000 in
theorem irbegin_yes0 (ca : Bool) (z ro : Int) (x : ByteArray) (w : World) (d1 : decide (z < 1) = false) (d2 : decide (4096 ≤ z) = false) (d3 : decide (ro < 1) = false) (d4 : decide (16 < ro) = false) (HO : Hid (∀ W, Calls Tryz.prog 41 #[.agg #[.int .i64 105, .int .i64 1, .bool ca, .int .i64 0, .int .i64 z, .int .i64 ro, .int .i64 0, .int .i64 0, .int .i64 0, .slice none 0 0, .int .i64 1, .slice none 0 0, .string ⟨#[]⟩, .int .i64 0, .slice none 0 0, .int .i64 0, .int .i64 0, .slice none 0 0]] W fun e w' => e = .returned (.string x) ∧ Below W.heap.size W w')) :
    Calls Tryz.prog 17 #[.bool ca, .int .i64 z, .int .i64 ro] w fun e w' => e = .returned (.tuple #[.agg #[.int .i64 105, .int .i64 1, .bool ca, .int .i64 0, .int .i64 z, .int .i64 ro, .int .i64 0, .int .i64 0, .int .i64 0, .slice none 0 0, .int .i64 1, .slice none 0 0, .string ⟨#[]⟩, .int .i64 0, .slice none 0 0, .int .i64 0, .int .i64 0, .slice none 0 0], .string x, .int .i64 0]) ∧ Below w.heap.size w w' := by
  have kR0 : Hid (Rg.Bk w.heap.size [.int .i64 0, .int .i64 0, .bool false, .int .i64 0, .int .i64 0, .int .i64 0, .int .i64 0, .int .i64 0, .int .i64 0, .slice none 0 0, .int .i64 0, .slice none 0 0, .string ⟨#[]⟩, .int .i64 0, .slice none 0 0, .int .i64 0, .int .i64 0, .slice none 0 0] 29 (w.alloc (.cells #[.int .i64 0, .int .i64 0, .bool false, .int .i64 0, .int .i64 0, .int .i64 0, .int .i64 0, .int .i64 0, .int .i64 0, .slice none 0 0, .int .i64 0, .slice none 0 0, .string ⟨#[]⟩, .int .i64 0, .slice none 0 0, .int .i64 0, .int .i64 0, .slice none 0 0] 29))) := Rg.Bk.new rfl
  have hb0 := Rg.hid (Rg.al1 w (.cells #[.int .i64 0, .int .i64 0, .bool false, .int .i64 0, .int .i64 0, .int .i64 0, .int .i64 0, .int .i64 0, .int .i64 0, .slice none 0 0, .int .i64 0, .slice none 0 0, .string ⟨#[]⟩, .int .i64 0, .slice none 0 0, .int .i64 0, .int .i64 0, .slice none 0 0] 29))
  obtain ⟨R, hR⟩ : ∃ R, R = w.heap.size := ⟨_, rfl⟩
  have hD : Hid (∀ W : World, IDH (fun _ => True) W (Ip.begin_ ca z ro) #[.int .i64 105, .int .i64 1, .bool ca, .int .i64 0, .int .i64 z, .int .i64 ro, .int .i64 0, .int .i64 0, .int .i64 0, .slice none 0 0, .int .i64 1, .slice none 0 0, .string ⟨#[]⟩, .int .i64 0, .slice none 0 0, .int .i64 0, .int .i64 0, .slice none 0 0]) := fun W => ⟨⟨none, 0, none, 0, none, 0, none, 0⟩, rfl, ⟨.inl rfl, .inl rfl, .inl rfl, .inl rfl⟩, Nat.le_refl _, Nat.zero_le _, Nat.zero_le _, Nat.zero_le _, .inl rfl, .inl rfl, .inl rfl, .inl rfl⟩
  go_enter Tryz.func17, Tryz.ntmps17
  go_upto_region 1 with fail
  generalize World.alloc _ _ = w1 at *
  rw [← hR] at kR0 ⊢
  have hRw : Hid (w.heap.size ≤ R) := by show _ ≤ _; omega
  clear hR
  have kE0 : Hid (Rg.Bk w1.heap.size [.int .i64 105, .int .i64 1, .bool ca, .int .i64 0, .int .i64 z, .int .i64 ro, .int .i64 0, .int .i64 0, .int .i64 0, .slice none 0 0, .int .i64 1, .slice none 0 0, .string ⟨#[]⟩, .int .i64 0, .slice none 0 0, .int .i64 0, .int .i64 0, .slice none 0 0] 29 (w1.alloc (.cells #[.int .i64 105, .int .i64 1, .bool ca, .int .i64 0, .int .i64 z, .int .i64 ro, .int .i64 0, .int .i64 0, .int .i64 0, .slice none 0 0, .int .i64 1, .slice none 0 0, .string ⟨#[]⟩, .int .i64 0, .slice none 0 0, .int .i64 0, .int .i64 0, .slice none 0 0] 29))) := Rg.Bk.new rfl
  have b2 := Rg.hid (Rg.al1 w1 (.cells #[.int .i64 105, .int .i64 1, .bool ca, .int .i64 0, .int .i64 z, .int .i64 ro, .int .i64 0, .int .i64 0, .int .i64 0, .slice none 0 0, .int .i64 1, .slice none 0 0, .string ⟨#[]⟩, .int .i64 0, .slice none 0 0, .int .i64 0, .int .i64 0, .slice none 0 0] 29))
  go_upto_region 4 with fail
  generalize World.alloc _ _ = w2 at *
  obtain ⟨eb, heb⟩ : ∃ eb, eb = w1.heap.size := ⟨_, rfl⟩
  rw [← heb] at kE0 ⊢
  have hRe : Hid (R ≠ eb) := by show _ ≠ _; rw [heb]; have := kR0.out.lt; omega
  clear heb
  have kR2 := Rg.hid (kR0.out.below b2.out kR0.out.lt)
  have hb2 := Rg.hid (Rg.chain hb0.out b2.out)
  obtain ⟨CD, hCD⟩ : ∃ CD : Array Value, CD = #[.int .i64 105, .int .i64 1, .bool ca, .int .i64 0, .int .i64 z, .int .i64 ro, .int .i64 0, .int .i64 0, .int .i64 0, .slice none 0 0, .int .i64 1, .slice none 0 0, .string ⟨#[]⟩, .int .i64 0, .slice none 0 0, .int .i64 0, .int .i64 0, .slice none 0 0] := ⟨_, rfl⟩
  rw [← hCD] at HO hD ⊢
  have eL : [.int .i64 105, .int .i64 1, .bool ca, .int .i64 0, .int .i64 z, .int .i64 ro, .int .i64 0, .int .i64 0, .int .i64 0, .slice none 0 0, .int .i64 1, .slice none 0 0, .string ⟨#[]⟩, .int .i64 0, .slice none 0 0, .int .i64 0, .int .i64 0, .slice none 0 0] = CD.toList := by rw [hCD]
  rw [eL] at kE0
  replace hD := Rg.hid (hD.out w2)
  replace hCD := Rg.hid hCD
  clear eL kR0 hb0 b2
  have HO1 := Rg.hid (HO.out w2.drew)
  clear HO
  refine wp_region_held_drew (S := (fun (w' : World) => Rg.Bk eb CD.toList 29 w')) (by kernel_rfl) ?_ (fun hH0 => ?_)
  · exact kE0.out
  refine wpAnyH_take (i := 0) (oi := { dst := some 29, op := _, type := _, pos := _, after := _, guard := _ }) (v := .agg CD) rfl (by kernel_rfl) (by kernel_rfl) (by kernel_rfl) (fun _ _ _ h => h) (Or.inl ⟨by rfl, fun w hSw => iexec_load_row _ _ rfl rfl (hD.out.load hSw)⟩) (by assumption) ?_
  simp only [Act.put, List.setIfInBounds_toArray, List.set_cons_zero, List.set_cons_succ]
  refine wpAnyH_take (i := 1) (oi := { dst := some 30, op := _, type := _, pos := _, after := _, guard := _ }) (v := .agg CD) rfl (by kernel_rfl) (by kernel_rfl) (by kernel_rfl) (fun _ _ _ h => h) (Or.inl ⟨by rfl, fun w hSw => iexec_load_row _ _ rfl rfl (hD.out.load hSw)⟩) (by assumption) ?_
  simp only [Act.put, List.setIfInBounds_toArray, List.set_cons_zero, List.set_cons_succ]
  refine wpAnyH_ready (rs := [2]) (by kernel_rfl) (by simp) ?_
  refine AllReadyH.cons (o := { dst := some 31, op := _, type := _, pos := _, after := _, guard := _ }) rfl (fun K hK => ?_) AllReadyH.nil
  go_simp
  go_at_call 41; refine (HO1.out).mono ?_; rintro e w5 ⟨rfl, hb5⟩
  refine hK.out _ _ ?_ (fun hH7 => ?_)
  · exact kE0.out.drew.below hb5 kE0.out.lt
  clear hK K hH0
  try simp only [Act.put, List.setIfInBounds_toArray, List.set_cons_zero, List.set_cons_succ]
  obtain ⟨w6, hst, kR6, oR6⟩ := IDH.over (Kp := fun _ => True) (hD.out.below ((Below.drew (Below.refl _ _)).trans hb5)) (izDH (fun _ => True) w5) ((kR2.out.drew.below hb5 kR2.out.lt))
  refine wpAnyH_ready (rs := [3]) (by kernel_rfl) (by simp) ?_
  refine AllReadyH.cons (o := { dst := none, op := _, type := _, pos := _, after := _, guard := _ }) rfl (fun K hK => ?_) AllReadyH.nil
  refine istep_store_row (by rfl) (.tmp 6) (.tmp 29) 29 (by rfl) (by rfl) (by rfl) hst.out ?_
  refine hK.out _ _ ?_ (fun hH8 => ?_)
  · exact ((kE0.out.drew.below hb5 kE0.out.lt)).same (oR6.out.block eb (fun e => hRe.out e.symm))
  clear hK K hH7
  simp only [Act.put]
  refine wpAnyH_take (i := 4) (oi := { dst := some 7, op := _, type := _, pos := _, after := _, guard := _ }) (v := ?_) rfl (by kernel_rfl) (by kernel_rfl) (by kernel_rfl) (fun _ _ _ h => h) (Or.inl ⟨by rfl, ?_⟩) (by assumption) ?_
  rotate_left
  · (intro w hSw; clear hSw; go_simp); (try with_reducible rfl)
  simp only [Act.put, List.setIfInBounds_toArray, List.set_cons_zero, List.set_cons_succ]
  refine wpAnyH_take (i := 5) (oi := { dst := some 8, op := _, type := _, pos := _, after := _, guard := _ }) (v := ?_) rfl (by kernel_rfl) (by kernel_rfl) (by kernel_rfl) (fun _ _ _ h => h) (Or.inl ⟨by rfl, ?_⟩) (by assumption) ?_
  rotate_left
  · (intro w hSw; clear hSw; go_simp); (try with_reducible rfl)
  simp only [Act.put, List.setIfInBounds_toArray, List.set_cons_zero, List.set_cons_succ]
  refine wpAnyH_done (by kernel_rfl) ?_ _
  have hres := hD.out.load kR6.out
  have hbel : Below w.heap.size w w6 := (Rg.chain hb2.out ((Below.drew (Below.refl _ _)).trans hb5)).trans (oR6.out.bel hRw.out)
  clear hst kR6 oR6 hH8 hb5 kE0 kR2
  go_wp2
  exact bodyPost_ret (v := .tuple #[.agg CD, .string x, .int .i64 0]) (iresults_row3 rfl rfl rfl rfl hres) rfl ⟨by rw [hCD.out], hbel⟩
theorem irbegin_yes (ca : Bool) (z ro : Int) (w : World) (h1 : 1 ≤ z ∧ z ≤ 4095) (h2 : 1 ≤ ro ∧ ro ≤ 16) : Calls Tryz.prog 17 #[.bool ca, .int .i64 z, .int .i64 ro] w fun e w' => e = .returned (.tuple #[.agg #[.int .i64 105, .int .i64 1, .bool ca, .int .i64 0, .int .i64 z, .int .i64 ro, .int .i64 0, .int .i64 0, .int .i64 0, .slice none 0 0, .int .i64 1, .slice none 0 0, .string ⟨#[]⟩, .int .i64 0, .slice none 0 0, .int .i64 0, .int .i64 0, .slice none 0 0], .string ⟨(Ip.sync (Ip.begin_ ca z ro)).toArray⟩, .int .i64 0]) ∧ Below w.heap.size w w' :=
  irbegin_yes0 ca z ro _ w (by simp; omega) (by simp; omega) (by simp; omega) (by simp; omega) (fun W => irsync_any ca z ro W h1 h2)
end Go.Proofs.YtomldoijcclhhaaGreat
