/-
  Layer 16: a step of a pair: bytes come to the second end.
-/
import Derived.Test.YtlclfkogbfigbaaGreatBsIqH
namespace Go.Proofs.YtlclfkogbfigbaaGreat
open Go.RowKit
set_option maxHeartbeats 4000000 in
set_option maxRecDepth 100000 in
theorem istepB {Kp : Nat → Prop} (B n : Nat) (a b : Gp.Dr) (CA CB : Array Value) (x0 x1 : List UInt8) (t0 t1 : Int) (w : World) (hP : Hid (IPB Kp B w a b CA CB (ipR x0 x1 t0 t1))) (hn : Hid (n = x1.length)) (hr : Hid (Ip.right b)) (hat : Hid (b.at_ + b.buf.length + x1.length ≤ 1099511627776)) (hbf : Hid (b.buf.length + x1.length ≤ 40000)) (hK : Hid (∀ b, w.heap.size ≤ b → Kp b)) (hn2 : Hid (n ≤ 40000)) (hy : Hid (x0.length + (Ip.feed b x1).2.1.length ≤ 20000)) (hcm : Hid ((Ip.feed b x1).2.2 = [])) (ht : Hid (0 ≤ t1 ∧ t1 ≤ 1099511627776)) (hk3 : Hid ((Ip.feed b x1).1.took.length ≤ 1000000)) :
    Calls Tryz.prog 24 #[.pointer (some ⟨B, 0, none⟩), .agg #[.int .i64 0, .int .i64 1, .int .i64 (n : Int), .int .i64 0, .string ⟨#[]⟩]] w fun e w' => IStPost Kp B w a (Ip.feed b x1).1 (ipR (x0 ++ (Ip.feed b x1).2.1) [] t0 (t1 + (n : Int))) e w' := by
  have kO : Hid (Rg.Bk w.heap.size [.int .i64 0, .int .i64 1, .int .i64 (n : Int), .int .i64 0, .string ⟨#[]⟩] 58 (w.alloc (.cells #[.int .i64 0, .int .i64 1, .int .i64 (n : Int), .int .i64 0, .string ⟨#[]⟩] 58))) := Rg.Bk.new rfl
  have bO := Rg.hid (Rg.al1 w (.cells #[.int .i64 0, .int .i64 1, .int .i64 (n : Int), .int .i64 0, .string ⟨#[]⟩] 58))
  have hP1 := Rg.hid (hP.out.below bO.out)
  go_enter Tryz.func24, Tryz.ntmps24
  go_upto_region 1 with fail
  generalize World.alloc _ _ = w1 at *
  obtain ⟨BO, hBO⟩ : ∃ B, B = w.heap.size := ⟨_, rfl⟩
  rw [← hBO] at kO ⊢
  replace hBO := Rg.hid hBO
  have f0 : w1.cell? ⟨BO, 0, none⟩ = some (.int .i64 0) := kO.out.cell 0
  have f1 : w1.cell? ⟨BO, 1, none⟩ = some (.int .i64 1) := kO.out.cell 1
  have f2 : w1.cell? ⟨BO, 2, none⟩ = some (.int .i64 (n : Int)) := kO.out.cell 2
  obtain ⟨X, hX⟩ : ∃ X : ByteArray, X = ⟨x1.toArray⟩ := ⟨_, rfl⟩
  have cX : w1.cell? ⟨B, 37, none⟩ = some (.string X) := by rw [hX]; exact hP1.out.cell 1
  have hXn : (X.size : Int) = (n : Int) := by rw [hX, isize_bytes, hn.out]
  have m1 : max (n : Int) 0 = (n : Int) := by omega
  have m2 : min (n : Int) (n : Int) = (n : Int) := by omega
  replace hX := Rg.hid hX
  go_upto_region 4 with fail
  go_region
  have hP2 := Rg.hid (hP1.out.below (Below.refl _ w1).drew)
  have b2 := Rg.hid bO.out.drew
  have hws : Hid (w.heap.size ≤ w1.drew.heap.size) := b2.out.size
  go_upto_region 5 with fail
  generalize World.drew _ = w2 at *
  clear f0 f1 f2 cX hP1 bO kO m1 m2 hBO
  have hsz : Hid (CA.size = 18 ∧ CB.size = 18) := ⟨hP2.out.ha.size, hP2.out.hb.size⟩
  have hXe : Hid (X.extract 0 n = X) := by show _ = _; have : X.size = n := by omega
                                           rw [← this]; exact ByteArray.extract_zero_size
  have HF1 := Rg.hid (ihfeed (hP2.out.hb.below (Below.refl _ w2).drew) hr.out x1 hat.out hbf.out (by rw [hcm.out]; exact fun x hx => by cases hx) (fun b h => hK.out b (Nat.le_trans hws.out h)))
  have HF2 := Rg.hid (ihfeed ((hP2.out.hb.fresh).below (Rg.chain (Below.refl _ w2).drew (Rg.al1 w2.drew (.cells #[.int .i64 0, .int .i64 0, .bool false, .int .i64 0, .int .i64 0, .int .i64 0, .int .i64 0, .int .i64 0, .int .i64 0, .slice none 0 0, .int .i64 0, .slice none 0 0, .string ⟨#[]⟩, .int .i64 0, .slice none 0 0, .int .i64 0, .int .i64 0, .slice none 0 0] 29)))) hr.out x1 hat.out hbf.out (by rw [hcm.out]; exact fun x hx => by cases hx) (fun b h => ⟨hK.out b (Nat.le_trans hws.out (Nat.le_trans (Rg.al1 w2.drew (.cells #[.int .i64 0, .int .i64 0, .bool false, .int .i64 0, .int .i64 0, .int .i64 0, .int .i64 0, .int .i64 0, .int .i64 0, .slice none 0 0, .int .i64 0, .slice none 0 0, .string ⟨#[]⟩, .int .i64 0, .slice none 0 0, .int .i64 0, .int .i64 0, .slice none 0 0] 29)).size h)), by have h2 := h; simp at h2; omega⟩))
  rw [← hX.out, ← hXe.out] at HF1 HF2
  obtain ⟨r, hrr⟩ : ∃ r, r = Ip.feed b x1 := ⟨_, rfl⟩
  rw [← hrr] at HF1 HF2
  have hcr : Hid (r.2.2 = []) := by show _ = _; rw [hrr]; exact hcm.out
  replace hrr := Rg.hid hrr
  go_cut [6, 7, 8] (fun v6 v7 v8 wx => Hid (IS5 Kp B w a b CA CB (ipR x0 x1 t0 t1) r v6 v7 v8 wx))
  case first =>
    refine wp_region_held_drew (S := fun (w' : World) => Rg.Bk B (IPC2 CA CB (ipR x0 x1 t0 t1)) 54 w') (by kernel_rfl) ?_ (fun hH0 => ?_)
    · exact hP2.out.bk
    refine wpAnyH_take (i := 0) (oi := { dst := some 38, op := _, type := _, pos := _, after := _, guard := _ }) (v := ?_) rfl (by kernel_rfl) (by kernel_rfl) (by kernel_rfl) (fun _ _ _ h => h) (Or.inl ⟨by rfl, ?_⟩) (by assumption) ?_
    rotate_left
    · (intro w hSw; clear hSw; go_simp); (try with_reducible rfl)
    simp only [Act.put, List.setIfInBounds_toArray, List.set_cons_zero, List.set_cons_succ]
    refine wpAnyH_take (i := 1) (oi := { dst := some 39, op := _, type := _, pos := _, after := _, guard := _ }) (v := ?_) rfl (by kernel_rfl) (by kernel_rfl) (by kernel_rfl) (fun _ _ _ h => h) (Or.inl ⟨by rfl, ?_⟩) (by assumption) ?_
    rotate_left
    · (intro w hSw; clear hSw; go_simp); (try with_reducible rfl)
    simp only [Act.put, List.setIfInBounds_toArray, List.set_cons_zero, List.set_cons_succ]
    refine wpAnyH_take (i := 2) (oi := { dst := some 40, op := _, type := _, pos := _, after := _, guard := _ }) (v := ?_) rfl (by kernel_rfl) (by kernel_rfl) (by kernel_rfl) (fun _ _ _ h => h) (Or.inl ⟨by rfl, ?_⟩) (by assumption) ?_
    rotate_left
    · (intro w hSw; clear hSw; go_simp); (try with_reducible rfl)
    simp only [Act.put, List.setIfInBounds_toArray, List.set_cons_zero, List.set_cons_succ]
    refine wpAnyH_take (i := 3) (oi := { dst := some 41, op := _, type := _, pos := _, after := _, guard := _ }) (v := ?_) rfl (by kernel_rfl) (by kernel_rfl) (by kernel_rfl) (fun _ _ _ h => h) (Or.inl ⟨by rfl, ?_⟩) (by assumption) ?_
    rotate_left
    · (intro w hSw; clear hSw; go_simp); (try with_reducible rfl)
    simp only [Act.put, List.setIfInBounds_toArray, List.set_cons_zero, List.set_cons_succ]
    refine wpAnyH_take (i := 4) (oi := { dst := some 42, op := _, type := _, pos := _, after := _, guard := _ }) (v := ?_) rfl (by kernel_rfl) (by kernel_rfl) (by kernel_rfl) (fun _ _ _ h => h) (Or.inl ⟨by rfl, ?_⟩) (by assumption) ?_
    rotate_left
    · (intro w hSw; clear hSw; go_simp); (try with_reducible rfl)
    simp only [Act.put, List.setIfInBounds_toArray, List.set_cons_zero, List.set_cons_succ]
    refine wpAnyH_take (i := 5) (oi := { dst := some 43, op := _, type := _, pos := _, after := _, guard := _ }) (v := .agg CB) rfl (by kernel_rfl) (by kernel_rfl) (by kernel_rfl) (fun _ _ _ h => h) (Or.inl ⟨by rfl, fun w hSw => exec_load_any _ _ rfl rfl (ipcB hP2.out.hb hsz.out.1 hSw)⟩) (by assumption) ?_
    simp only [Act.put, List.setIfInBounds_toArray, List.set_cons_zero, List.set_cons_succ]
    refine wpAnyH_take (i := 6) (oi := { dst := some 44, op := _, type := _, pos := _, after := _, guard := _ }) (v := ?_) rfl (by kernel_rfl) (by kernel_rfl) (by kernel_rfl) (fun _ _ _ h => h) (Or.inl ⟨by rfl, ?_⟩) (by assumption) ?_
    rotate_left
    · (intro w hSw; clear hSw; go_simp); (try with_reducible rfl)
    simp only [Act.put, List.setIfInBounds_toArray, List.set_cons_zero, List.set_cons_succ]
    refine wpAnyH_take (i := 7) (oi := { dst := some 45, op := _, type := _, pos := _, after := _, guard := _ }) (v := ?_) rfl (by kernel_rfl) (by kernel_rfl) (by kernel_rfl) (fun _ _ _ h => h) (Or.inl ⟨by rfl, ?_⟩) (by assumption) ?_
    rotate_left
    · (intro w hSw; clear hSw; go_simp); (try with_reducible rfl)
    simp only [Act.put, List.setIfInBounds_toArray, List.set_cons_zero, List.set_cons_succ]
    refine wpAnyH_take (i := 8) (oi := { dst := some 46, op := _, type := _, pos := _, after := _, guard := _ }) (v := ?_) rfl (by kernel_rfl) (by kernel_rfl) (by kernel_rfl) (fun _ _ _ h => h) (Or.inl ⟨by rfl, ?_⟩) (by assumption) ?_
    rotate_left
    · (intro w hSw; clear hSw; go_simp); (try with_reducible rfl)
    simp only [Act.put, List.setIfInBounds_toArray, List.set_cons_zero, List.set_cons_succ]
    refine wpAnyH_take (i := 9) (oi := { dst := some 47, op := _, type := _, pos := _, after := _, guard := _ }) (v := ?_) rfl (by kernel_rfl) (by kernel_rfl) (by kernel_rfl) (fun _ _ _ h => h) (Or.inl ⟨by rfl, ?_⟩) (by assumption) ?_
    rotate_left
    · (intro w hSw; clear hSw; go_simp); (try with_reducible rfl)
    simp only [Act.put, List.setIfInBounds_toArray, List.set_cons_zero, List.set_cons_succ]
    refine wpAnyH_take (i := 10) (oi := { dst := some 48, op := _, type := _, pos := _, after := _, guard := _ }) (v := ?_) rfl (by kernel_rfl) (by kernel_rfl) (by kernel_rfl) (fun _ _ _ h => h) (Or.inl ⟨by rfl, ?_⟩) (by assumption) ?_
    rotate_left
    · (intro w hSw; clear hSw; go_simp); (try with_reducible rfl)
    simp only [Act.put, List.setIfInBounds_toArray, List.set_cons_zero, List.set_cons_succ]
    refine wpAnyH_take (i := 11) (oi := { dst := some 49, op := _, type := _, pos := _, after := _, guard := _ }) (v := .string X) rfl (by kernel_rfl) (by kernel_rfl) (by kernel_rfl) (fun _ _ _ h => h) (Or.inl ⟨by rfl, ?_⟩) (by assumption) ?_
    · intro w hSw; have cX : w.cell? ⟨B, 37, none⟩ = some (.string X) := (by rw [hX.out]; exact ipc_cell hSw hsz.out.1 hsz.out.2 1); clear hSw; go_simp; (try with_reducible rfl)
    simp only [Act.put, List.setIfInBounds_toArray, List.set_cons_zero, List.set_cons_succ]
    refine wpAnyH_take (i := 12) (oi := { dst := some 50, op := _, type := _, pos := _, after := _, guard := _ }) (v := ?_) rfl (by kernel_rfl) (by kernel_rfl) (by kernel_rfl) (fun _ _ _ h => h) (Or.inl ⟨by rfl, ?_⟩) (by assumption) ?_
    rotate_left
    · (intro w hSw; clear hSw; go_simp); (try with_reducible rfl)
    simp only [Act.put, List.setIfInBounds_toArray, List.set_cons_zero, List.set_cons_succ]
    refine wpAnyH_take (i := 13) (oi := { dst := some 51, op := _, type := _, pos := _, after := _, guard := _ }) (v := .string (X.extract 0 n)) rfl (by kernel_rfl) (by kernel_rfl) (by kernel_rfl) (fun _ _ _ h => h) (Or.inl ⟨by rfl, ?_⟩) (by assumption) ?_
    · (intro w hSw; clear hSw; go_simp); (try with_reducible rfl)
    simp only [Act.put, List.setIfInBounds_toArray, List.set_cons_zero, List.set_cons_succ]
    refine wpAnyH_ready (rs := [14, 19]) (by kernel_rfl) (by simp) ?_
    refine AllReadyH.cons (o := { dst := some 52, op := _, type := _, pos := _, after := _, guard := _ }) rfl (fun K hK => ?_) (AllReadyH.cons (o := { dst := some 6, op := _, type := _, pos := _, after := _, guard := _ }) rfl (fun K hK => ?_) AllReadyH.nil)
    · go_simp
      go_at_call 12; refine HF1.out.mono ?_; rintro e w3 ⟨C5, a5, c5, rfl, hd3, b3, _⟩
      refine hK.out _ _ ?_ (fun hH14 => ?_)
      · exact hP2.out.bk.drew.below b3.out hP2.out.bk.lt
      clear hK K hH0
      try simp only [Act.put, List.setIfInBounds_toArray, List.set_cons_zero, List.set_cons_succ]
      refine wpAnyH_take (i := 15) (oi := { dst := some 37, op := _, type := _, pos := _, after := _, guard := _ }) (v := ?_) rfl (by kernel_rfl) (by kernel_rfl) (by kernel_rfl) (fun _ _ _ h => h) (Or.inl ⟨by rfl, ?_⟩) (by assumption) ?_
      rotate_left
      · (intro w hSw; clear hSw; go_simp); (try with_reducible rfl)
      simp only [Act.put, List.setIfInBounds_toArray, List.set_cons_zero, List.set_cons_succ]
      refine wpAnyH_take (i := 16) (oi := { dst := some 53, op := _, type := _, pos := _, after := _, guard := _ }) (v := ?_) rfl (by kernel_rfl) (by kernel_rfl) (by kernel_rfl) (fun _ _ _ h => h) (Or.inl ⟨by rfl, ?_⟩) (by assumption) ?_
      rotate_left
      · (intro w hSw; clear hSw; go_simp); (try with_reducible rfl)
      simp only [Act.put, List.setIfInBounds_toArray, List.set_cons_zero, List.set_cons_succ]
      refine wpAnyH_take (i := 17) (oi := { dst := some 54, op := _, type := _, pos := _, after := _, guard := _ }) (v := ?_) rfl (by kernel_rfl) (by kernel_rfl) (by kernel_rfl) (fun _ _ _ h => h) (Or.inl ⟨by rfl, ?_⟩) (by assumption) ?_
      rotate_left
      · (intro w hSw; clear hSw; go_simp); (try with_reducible rfl)
      simp only [Act.put, List.setIfInBounds_toArray, List.set_cons_zero, List.set_cons_succ]
      refine wpAnyH_take (i := 18) (oi := { dst := some 55, op := _, type := _, pos := _, after := _, guard := _ }) (v := ?_) rfl (by kernel_rfl) (by kernel_rfl) (by kernel_rfl) (fun _ _ _ h => h) (Or.inl ⟨by rfl, ?_⟩) (by assumption) ?_
      rotate_left
      · (intro w hSw; clear hSw; go_simp); (try with_reducible rfl)
      simp only [Act.put, List.setIfInBounds_toArray, List.set_cons_zero, List.set_cons_succ]
      obtain ⟨w4, st4, k4, b4, hd4⟩ := hd3.out.box
      refine wpAnyH_ready (rs := [19]) (by kernel_rfl) (by simp) ?_
      refine AllReadyH.cons (o := { dst := some 6, op := _, type := _, pos := _, after := _, guard := _ }) rfl (fun K hK => ?_) AllReadyH.nil
      go_simp
      refine hK.out _ _ ?_ (fun hH19 => ?_)
      · exact (hP2.out.bk.drew.below b3.out hP2.out.bk.lt).old _
      clear hK K hH14
      try simp only [Act.put, List.setIfInBounds_toArray, List.set_cons_zero, List.set_cons_succ]
      refine wpAnyH_ready (rs := [20]) (by kernel_rfl) (by simp) ?_
      refine AllReadyH.cons (o := { dst := none, op := _, type := _, pos := _, after := _, guard := _ }) rfl (fun K hK => ?_) AllReadyH.nil
      refine istep_store_row (by rfl) (.tmp 6) (.tmp 53) 29 (by rfl) (by rfl) (by rfl) st4.out ?_
      refine hK.out _ _ ?_ (fun hH20 => ?_)
      · exact (hP2.out.bk.drew.below b3.out hP2.out.bk.lt).below b4.out (Nat.lt_of_lt_of_le hP2.out.bk.lt b3.out.size)
      clear hK K hH19
      simp only [Act.put]
      refine wpAnyH_take (i := 21) (oi := { dst := some 7, op := _, type := _, pos := _, after := _, guard := _ }) (v := ?_) rfl (by kernel_rfl) (by kernel_rfl) (by kernel_rfl) (fun _ _ _ h => h) (Or.inl ⟨by rfl, ?_⟩) (by assumption) ?_
      rotate_left
      · (intro w hSw; clear hSw; go_simp); (try with_reducible rfl)
      simp only [Act.put, List.setIfInBounds_toArray, List.set_cons_zero, List.set_cons_succ]
      refine wpAnyH_take (i := 22) (oi := { dst := some 8, op := _, type := _, pos := _, after := _, guard := _ }) (v := ?_) rfl (by kernel_rfl) (by kernel_rfl) (by kernel_rfl) (fun _ _ _ h => h) (Or.inl ⟨by rfl, ?_⟩) (by assumption) ?_
      rotate_left
      · (intro w hSw; clear hSw; go_simp); (try with_reducible rfl)
      simp only [Act.put, List.setIfInBounds_toArray, List.set_cons_zero, List.set_cons_succ]
      refine wpAnyH_done (by kernel_rfl) ?_ _
      have hfe := Rg.hid (IS5.mk1 (r := r) (a5 := a5) (c5 := c5) (hP2.out.below (Below.refl _ w2).drew) b2.out.drew b3.out b4.out k4.out hd4.out hcr.out)
      clear hH20 st4 k4 b4 hd4 hd3 b3 HF1 HF2
      go_wp2_with fail
      go_meet
      exact hfe
    · go_simp
      refine hK.out _ _ ?_ (fun hH19 => ?_)
      · exact hP2.out.bk.drew.old _
      clear hK K hH0
      try simp only [Act.put, List.setIfInBounds_toArray, List.set_cons_zero, List.set_cons_succ]
      refine wpAnyH_ready (rs := [14]) (by kernel_rfl) (by simp) ?_
      refine AllReadyH.cons (o := { dst := some 52, op := _, type := _, pos := _, after := _, guard := _ }) rfl (fun K hK => ?_) AllReadyH.nil
      go_simp
      go_at_call 12; refine HF2.out.mono ?_; rintro e w4 ⟨C5, a5, c5, rfl, hd4, b4, _⟩
      refine hK.out _ _ ?_ (fun hH14 => ?_)
      · exact (hP2.out.bk.drew.old _).below b4.out (hP2.out.bk.drew.old _).lt
      clear hK K hH19
      try simp only [Act.put, List.setIfInBounds_toArray, List.set_cons_zero, List.set_cons_succ]
      refine wpAnyH_take (i := 15) (oi := { dst := some 37, op := _, type := _, pos := _, after := _, guard := _ }) (v := ?_) rfl (by kernel_rfl) (by kernel_rfl) (by kernel_rfl) (fun _ _ _ h => h) (Or.inl ⟨by rfl, ?_⟩) (by assumption) ?_
      rotate_left
      · (intro w hSw; clear hSw; go_simp); (try with_reducible rfl)
      simp only [Act.put, List.setIfInBounds_toArray, List.set_cons_zero, List.set_cons_succ]
      refine wpAnyH_take (i := 16) (oi := { dst := some 53, op := _, type := _, pos := _, after := _, guard := _ }) (v := ?_) rfl (by kernel_rfl) (by kernel_rfl) (by kernel_rfl) (fun _ _ _ h => h) (Or.inl ⟨by rfl, ?_⟩) (by assumption) ?_
      rotate_left
      · (intro w hSw; clear hSw; go_simp); (try with_reducible rfl)
      simp only [Act.put, List.setIfInBounds_toArray, List.set_cons_zero, List.set_cons_succ]
      refine wpAnyH_take (i := 17) (oi := { dst := some 54, op := _, type := _, pos := _, after := _, guard := _ }) (v := ?_) rfl (by kernel_rfl) (by kernel_rfl) (by kernel_rfl) (fun _ _ _ h => h) (Or.inl ⟨by rfl, ?_⟩) (by assumption) ?_
      rotate_left
      · (intro w hSw; clear hSw; go_simp); (try with_reducible rfl)
      simp only [Act.put, List.setIfInBounds_toArray, List.set_cons_zero, List.set_cons_succ]
      refine wpAnyH_take (i := 18) (oi := { dst := some 55, op := _, type := _, pos := _, after := _, guard := _ }) (v := ?_) rfl (by kernel_rfl) (by kernel_rfl) (by kernel_rfl) (fun _ _ _ h => h) (Or.inl ⟨by rfl, ?_⟩) (by assumption) ?_
      rotate_left
      · (intro w hSw; clear hSw; go_simp); (try with_reducible rfl)
      simp only [Act.put, List.setIfInBounds_toArray, List.set_cons_zero, List.set_cons_succ]
      obtain ⟨w5, st5, k5, o5⟩ := hd4.out.over (izDH (fun _ => True) w4) ((Rg.Bk.new (C := [.int .i64 0, .int .i64 0, .bool false, .int .i64 0, .int .i64 0, .int .i64 0, .int .i64 0, .int .i64 0, .int .i64 0, .slice none 0 0, .int .i64 0, .slice none 0 0, .string ⟨#[]⟩, .int .i64 0, .slice none 0 0, .int .i64 0, .int .i64 0, .slice none 0 0]) (ty := 29) (W := w2.drew) rfl).below b4.out (by simp))
      refine wpAnyH_ready (rs := [20]) (by kernel_rfl) (by simp) ?_
      refine AllReadyH.cons (o := { dst := none, op := _, type := _, pos := _, after := _, guard := _ }) rfl (fun K hK => ?_) AllReadyH.nil
      refine istep_store_row (by rfl) (.tmp 6) (.tmp 53) 29 (by rfl) (by rfl) (by rfl) st5.out ?_
      refine hK.out _ _ ?_ (fun hH20 => ?_)
      · exact ((hP2.out.bk.drew.old _).below b4.out (hP2.out.bk.drew.old _).lt).same (o5.out.block B (Nat.ne_of_lt hP2.out.bk.lt))
      clear hK K hH14
      simp only [Act.put]
      refine wpAnyH_take (i := 21) (oi := { dst := some 7, op := _, type := _, pos := _, after := _, guard := _ }) (v := ?_) rfl (by kernel_rfl) (by kernel_rfl) (by kernel_rfl) (fun _ _ _ h => h) (Or.inl ⟨by rfl, ?_⟩) (by assumption) ?_
      rotate_left
      · (intro w hSw; clear hSw; go_simp); (try with_reducible rfl)
      simp only [Act.put, List.setIfInBounds_toArray, List.set_cons_zero, List.set_cons_succ]
      refine wpAnyH_take (i := 22) (oi := { dst := some 8, op := _, type := _, pos := _, after := _, guard := _ }) (v := ?_) rfl (by kernel_rfl) (by kernel_rfl) (by kernel_rfl) (fun _ _ _ h => h) (Or.inl ⟨by rfl, ?_⟩) (by assumption) ?_
      rotate_left
      · (intro w hSw; clear hSw; go_simp); (try with_reducible rfl)
      simp only [Act.put, List.setIfInBounds_toArray, List.set_cons_zero, List.set_cons_succ]
      refine wpAnyH_done (by kernel_rfl) ?_ _
      have hfe := Rg.hid (IS5.mk2 (r := r) (a5 := a5) (c5 := c5) (hP2.out.below (Below.refl _ w2).drew) b2.out.drew b4.out o5.out k5.out hd4.out hcr.out)
      clear hH20 st5 k5 o5 hd4 b4 HF1 HF2
      go_wp2_with fail
      go_meet
      exact hfe
  case rest =>
    obtain ⟨B6, C5, a5, c5, rfl, rfl, rfl, n6, k6, hd6, hP6, o6⟩ := hcut.out
    clear HF1 HF2 hcut hP2 b2 hws hP hr hat hbf hXe
    go_upto_region 6 with fail
    obtain ⟨w7, st7, hP7, o7⟩ := (hP6.out.below (Below.refl _ wc).drew).storeB (hd6.out.below (Below.refl _ wc).drew)
    have o07 := Rg.hid ((o6.out.trans (Oth.of (Below.refl _ wc).drew)).trans (Oth.only o7.out))
    have k67 := Rg.hid (k6.out.drew.same (o7.out.block B6 n6.out))
    refine wp_region_held_drew (S := fun (w' : World) => Rg.Bk B6 C5.toList 29 w') (by kernel_rfl) ?_ (fun hH0 => ?_)
    · exact k6.out
    refine wpAnyH_take (i := 0) (oi := { dst := some 56, op := _, type := _, pos := _, after := _, guard := _ }) (v := ?_) rfl (by kernel_rfl) (by kernel_rfl) (by kernel_rfl) (fun _ _ _ h => h) (Or.inl ⟨by rfl, ?_⟩) (by assumption) ?_
    rotate_left
    · (intro w hSw; clear hSw; go_simp); (try with_reducible rfl)
    simp only [Act.put, List.setIfInBounds_toArray, List.set_cons_zero, List.set_cons_succ]
    refine wpAnyH_take (i := 1) (oi := { dst := some 57, op := _, type := _, pos := _, after := _, guard := _ }) (v := ?_) rfl (by kernel_rfl) (by kernel_rfl) (by kernel_rfl) (fun _ _ _ h => h) (Or.inl ⟨by rfl, ?_⟩) (by assumption) ?_
    rotate_left
    · (intro w hSw; clear hSw; go_simp); (try with_reducible rfl)
    simp only [Act.put, List.setIfInBounds_toArray, List.set_cons_zero, List.set_cons_succ]
    refine wpAnyH_take (i := 2) (oi := { dst := some 58, op := _, type := _, pos := _, after := _, guard := _ }) (v := .agg C5) rfl (by kernel_rfl) (by kernel_rfl) (by kernel_rfl) (fun _ _ _ h => h) (Or.inl ⟨by rfl, fun w hSw => exec_load_any _ _ rfl rfl (hd6.out.load hSw)⟩) (by assumption) ?_
    simp only [Act.put, List.setIfInBounds_toArray, List.set_cons_zero, List.set_cons_succ]
    refine wpAnyH_take (i := 3) (oi := { dst := some 59, op := _, type := _, pos := _, after := _, guard := _ }) (v := ?_) rfl (by kernel_rfl) (by kernel_rfl) (by kernel_rfl) (fun _ _ _ h => h) (Or.inl ⟨by rfl, ?_⟩) (by assumption) ?_
    rotate_left
    · (intro w hSw; clear hSw; go_simp); (try with_reducible rfl)
    simp only [Act.put, List.setIfInBounds_toArray, List.set_cons_zero, List.set_cons_succ]
    refine wpAnyH_take (i := 4) (oi := { dst := some 60, op := _, type := _, pos := _, after := _, guard := _ }) (v := ?_) rfl (by kernel_rfl) (by kernel_rfl) (by kernel_rfl) (fun _ _ _ h => h) (Or.inl ⟨by rfl, ?_⟩) (by assumption) ?_
    rotate_left
    · (intro w hSw; clear hSw; go_simp); (try with_reducible rfl)
    simp only [Act.put, List.setIfInBounds_toArray, List.set_cons_zero, List.set_cons_succ]
    refine wpAnyH_take (i := 5) (oi := { dst := some 61, op := _, type := _, pos := _, after := _, guard := _ }) (v := ?_) rfl (by kernel_rfl) (by kernel_rfl) (by kernel_rfl) (fun _ _ _ h => h) (Or.inl ⟨by rfl, ?_⟩) (by assumption) ?_
    rotate_left
    · (intro w hSw; clear hSw; go_simp); (try with_reducible rfl)
    simp only [Act.put, List.setIfInBounds_toArray, List.set_cons_zero, List.set_cons_succ]
    refine wpAnyH_ready (rs := [6]) (by kernel_rfl) (by simp) ?_
    refine AllReadyH.cons (o := { dst := none, op := _, type := _, pos := _, after := _, guard := _ }) rfl (fun K hK => ?_) AllReadyH.nil
    refine step_store_any (by rfl) (.tmp 61) (.tmp 58) 29 (by rfl) (by rfl) (by rfl) st7.out ?_
    refine hK.out _ _ ?_ (fun hH6 => ?_)
    · exact k67.out
    clear hK K hH0
    simp only [Act.put]
    refine wpAnyH_done (by kernel_rfl) ?_ _
    clear hH6
    obtain ⟨Z, hZ⟩ : ∃ Z : ByteArray, Z = ⟨([] : List UInt8).toArray⟩ := ⟨_, rfl⟩
    have cX : w7.cell? ⟨B, 37, none⟩ = some (.string X) := by rw [hX.out]; exact hP7.out.cell 1
    have fz := hP7.out.bk.thaw
    have q0 : (0 : Int) ≤ (n : Int) := by omega
    have q1 : (n : Int) ≤ (X.size : Int) := by omega
    have hE : X.extract n X.size = Z := by rw [hZ]; exact ext_nil (by omega)
    have hP8 : Hid (IPB Kp B (w7.setCell ⟨B, 37, none⟩ (.string Z)).drew a r.1 CA C5 (ipR x0 [] t0 t1)) := by
      rw [hZ]
      exact (hP7.out.set 1 (.string ⟨([] : List UInt8).toArray⟩)).below (Below.refl _ _).drew
    have o8 : Hid (Rg.Only B w7 (w7.setCell ⟨B, 37, none⟩ (.string Z)).drew) := (Rg.Only.setCell _ _ _ _).trans (Rg.Only.drew _ _)
    replace hZ := Rg.hid hZ
    clear hP7 st7 o7 o6 hP6 hd6 k6 k67 n6 hX
    go_upto_region 7 with fail
    go_region
    go_upto_region 8 with fail
    generalize World.drew _ = w8 at *
    have o08 := Rg.hid (o07.out.trans (Oth.only o8.out))
    clear cX fz hE hXn q1 hZ o8 o07
    obtain ⟨Y, hY⟩ : ∃ Y : ByteArray, Y = ⟨x0.toArray⟩ := ⟨_, rfl⟩
    obtain ⟨T, hT⟩ : ∃ T : ByteArray, T = ⟨r.2.1.toArray⟩ := ⟨_, rfl⟩
    obtain ⟨YT, hYT⟩ : ∃ YT : ByteArray, Y ++ T = YT := ⟨_, rfl⟩
    have cY : w8.cell? ⟨B, 36, none⟩ = some (.string Y) := by rw [hY]; exact hP8.out.cell 0
    have fz := hP8.out.bk.thaw
    have zz : Y.size + T.size ≤ 100000 := by rw [hY, hT, isize_bytes, isize_bytes]; have := hy.out; rw [← hrr.out] at this; omega
    have eYT : YT = ⟨(x0 ++ r.2.1).toArray⟩ := by rw [← hYT, hY, hT, Ip.cat_bytes]
    have hP9 : Hid (IPB Kp B (w8.setCell ⟨B, 36, none⟩ (.string YT)).drew a r.1 CA C5 (ipR (x0 ++ r.2.1) [] t0 t1)) := by
      rw [eYT]
      exact (hP8.out.set 0 (.string ⟨(x0 ++ r.2.1).toArray⟩)).below (Below.refl _ _).drew
    have o9 : Hid (Rg.Only B w8 (w8.setCell ⟨B, 36, none⟩ (.string YT)).drew) := (Rg.Only.setCell _ _ _ _).trans (Rg.Only.drew _ _)
    rw [← hT]
    clear hP8 eYT hY hT
    go_region
    go_upto_region 9 with fail
    generalize World.drew _ = w9 at *
    have o09 := Rg.hid (o08.out.trans (Oth.only o9.out))
    clear cY fz zz hYT o9 o08
    have cT : w9.cell? ⟨B, 47, none⟩ = some (.int .i64 t1) := hP9.out.cell 11
    have fz := hP9.out.bk.thaw
    obtain ⟨U, hU⟩ : ∃ U : Int, U = t1 + n := ⟨_, rfl⟩
    have w1e : wrap64 (t1 + (n : Int)) = U := by rw [hU]; exact at_wrap ht.out hn.out hn2.out
    have w2e : IntKind.i64.wrap (t1 + (n : Int)) = U := by rw [hU]; exact at_wrap2 ht.out hn.out hn2.out
    replace hU := Rg.hid hU
    have hP10 : Hid (IPB Kp B (w9.setCell ⟨B, 47, none⟩ (.int .i64 U)).drew a r.1 CA C5 (ipR (x0 ++ r.2.1) [] t0 U)) := (hP9.out.set 11 (.int .i64 U)).below (Below.refl _ _).drew
    have o10 : Hid (Rg.Only B w9 (w9.setCell ⟨B, 47, none⟩ (.int .i64 U)).drew) := (Rg.Only.setCell _ _ _ _).trans (Rg.Only.drew _ _)
    clear hP9
    go_region
    go_upto_region 10 with fail
    generalize World.drew _ = w10 at *
    have o010 := Rg.hid (o09.out.trans (Oth.only o10.out))
    clear cT fz w1e w2e o10 o09
    have HT := Rg.hid (itook_anyB hP10.out (by rw [hrr.out]; exact hk3.out))
    go_upto_region 11 with (go_at_call 53; refine HT.out.mono ?_; rintro e w11 ⟨rfl, b11⟩)
    have hP11 := Rg.hid (hP10.out.below b11)
    have o011 := Rg.hid (o010.out.trans (Oth.of b11))
    clear HT hP10 o010 b11
    go_wp2
    go_loopw [103] (fun vj wx => vj = .int .i64 0 ∧ Hid (IPB Kp B wx a r.1 CA C5 (ipR (x0 ++ r.2.1) [] t0 U)) ∧ Hid (Oth B w wx)) (fun _ _ => 0)
    case atStart => exact ⟨rfl, hP11, o011⟩
    case round =>
        obtain ⟨rfl, hPj, oj⟩ := hrel
        clear hP11 o011
        go_wp2
        go_loopw [277] (fun vk wx => ∃ k : Nat, k ≤ 2 ∧ vk = .int .i64 k ∧ Hid (IPB Kp B wx a r.1 CA C5 (ipR (x0 ++ r.2.1) [] t0 U)) ∧ Hid (Oth B w wx)) (fun vk _ => 2 - (intOf vk).toNat)
        case atStart => exact ⟨0, by omega, rfl, hPj, oj⟩
        case round =>
          obtain ⟨k, hk, rfl, hPk, ok⟩ := hrel
          match k, hk with
          | 0, _ =>
            have c36 : wr.cell? ⟨B, 36, none⟩ = some (.string ⟨(x0 ++ r.2.1).toArray⟩) := hPk.out.cell 0
            have d36 : ¬ (20000 : Int) < ((⟨(x0 ++ r.2.1).toArray⟩ : ByteArray).size : Int) := by rw [isize_bytes]; exact (fit_y (by have := hy.out; rw [← hrr.out] at this; exact this))
            generalize (⟨(x0 ++ r.2.1).toArray⟩ : ByteArray) = G at c36 d36
            clear hPj oj
            go_wp2
            go_roundw
            case rel => exact ⟨1, by omega, by go_num, hPk, ok⟩
            case measure => simp [intOf]
          | 1, _ =>
            have c37 : wr.cell? ⟨B, 37, none⟩ = some (.string ⟨(([] : List UInt8)).toArray⟩) := hPk.out.cell 1
            have d37 : ¬ (20000 : Int) < ((⟨(([] : List UInt8)).toArray⟩ : ByteArray).size : Int) := by rw [isize_bytes]; exact (by decide)
            generalize (⟨(([] : List UInt8)).toArray⟩ : ByteArray) = G at c37 d37
            clear hPj oj
            go_wp2
            go_roundw
            case rel => exact ⟨2, by omega, by go_num, hPk, ok⟩
            case measure => simp [intOf]
          | 2, _ =>
            clear hPj oj
            go_wp2
            go_end0
            refine ⟨CA, C5, rfl, ?_, ok⟩
            have hfin := hPk.out
            rw [hrr.out, hU.out] at hfin
            exact hfin
end Go.Proofs.YtlclfkogbfigbaaGreat
