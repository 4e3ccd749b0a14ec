/-
  Layer 17: driver.Send and driver.Feed at a drive of e; awake.
-/
import Derived.Test.YtomldoijcclhhaaGreatSkBF
import Derived.Test.YtomldoijcclhhaaGreatSkAX
import Derived.Deep.RegionHeld3
import Derived.Deep.DeepCutAuto
namespace Go.Proofs.YtomldoijcclhhaaGreat
open Go.RowKit
def xED (at0 : Int) : Gp.Dr := ⟨101, 2, true, 0, 0, 0, Wn.zero, 0, [], [], at0, [], 0, 0, []⟩
theorem xE (at0 : Int) (wa aa qa ta : Option Addr) (wc ac qc tc : Nat) (W : World) : XD W (xED at0) #[.int .i64 101, .int .i64 2, .bool true, .int .i64 0, .int .i64 0, .int .i64 0, .int .i64 0, .int .i64 0, .int .i64 0, .slice wa 0 wc, .int .i64 0, .slice aa 0 ac, .string ⟨#[]⟩, .int .i64 at0, .slice qa 0 qc, .int .i64 0, .int .i64 0, .slice ta 0 tc] := ⟨⟨wa, wc, aa, ac, qa, qc, ta, tc⟩, rfl, .inl rfl, .inl rfl, .inl rfl, .inl rfl⟩
theorem ldE (wa aa qa ta : Option Addr) (wc ac qc tc : Nat) (at0 : Int) {B : Nat} {W : World} (k : Rg.Bk B [.int .i64 101, .int .i64 2, .bool true, .int .i64 0, .int .i64 0, .int .i64 0, .int .i64 0, .int .i64 0, .int .i64 0, .slice wa 0 wc, .int .i64 0, .slice aa 0 ac, .string ⟨#[]⟩, .int .i64 at0, .slice qa 0 qc, .int .i64 0, .int .i64 0, .slice ta 0 tc] 29 W) : (loadVar 29 ⟨B, 0, none⟩).run Tryz.prog W = .ok (.agg #[.int .i64 101, .int .i64 2, .bool true, .int .i64 0, .int .i64 0, .int .i64 0, .int .i64 0, .int .i64 0, .int .i64 0, .slice wa 0 wc, .int .i64 0, .slice aa 0 ac, .string ⟨#[]⟩, .int .i64 at0, .slice qa 0 qc, .int .i64 0, .int .i64 0, .slice ta 0 tc]) W := Rg.row_loadVar (P := Tryz.prog) (t := 29) (CS := #[.int .i64 101, .int .i64 2, .bool true, .int .i64 0, .int .i64 0, .int .i64 0, .int .i64 0, .int .i64 0, .int .i64 0, .slice wa 0 wc, .int .i64 0, .slice aa 0 ac, .string ⟨#[]⟩, .int .i64 at0, .slice qa 0 qc, .int .i64 0, .int .i64 0, .slice ta 0 tc]) k Tryz.underlying29 rfl xinfoDr
set_option maxHeartbeats 2000000 in
set_option maxRecDepth 100000 in
theorem dsendP (wa aa qa ta : Option Addr) (wc ac qc tc : Nat) (w : World) : Calls Tryz.prog 36 #[.agg #[.int .i64 101, .int .i64 2, .bool true, .int .i64 0, .int .i64 0, .int .i64 0, .int .i64 0, .int .i64 0, .int .i64 0, .slice wa 0 wc, .int .i64 0, .slice aa 0 ac, .string ⟨#[]⟩, .int .i64 0, .slice qa 0 qc, .int .i64 0, .int .i64 0, .slice ta 0 tc], .agg #[.int .i64 0, .string ⟨#[97, 98, 99]⟩]] w fun e w' => e = .returned (.tuple #[.agg #[.int .i64 101, .int .i64 2, .bool true, .int .i64 0, .int .i64 0, .int .i64 0, .int .i64 0, .int .i64 0, .int .i64 0, .slice wa 0 wc, .int .i64 0, .slice aa 0 ac, .string ⟨#[]⟩, .int .i64 0, .slice qa 0 qc, .int .i64 0, .int .i64 0, .slice none 0 0], .string ⟨#[97, 98, 99]⟩]) ∧ Below w.heap.size w w' := by
  have HR : Hid (∀ W, Calls Tryz.prog 38 #[.agg #[.int .i64 101, .int .i64 2, .bool true, .int .i64 0, .int .i64 0, .int .i64 0, .int .i64 0, .int .i64 0, .int .i64 0, .slice wa 0 wc, .int .i64 0, .slice aa 0 ac, .string ⟨#[]⟩, .int .i64 0, .slice qa 0 qc, .int .i64 0, .int .i64 0, .slice none 0 0]] W fun e w' => e = .returned (.bool true) ∧ Below W.heap.size W w') := dright wa aa qa none wc ac qc 0
  have kB : Hid (Rg.Bk w.heap.size [.int .i64 101, .int .i64 2, .bool true, .int .i64 0, .int .i64 0, .int .i64 0, .int .i64 0, .int .i64 0, .int .i64 0, .slice wa 0 wc, .int .i64 0, .slice aa 0 ac, .string ⟨#[]⟩, .int .i64 0, .slice qa 0 qc, .int .i64 0, .int .i64 0, .slice ta 0 tc] 29 (((w.alloc (.cells #[.int .i64 101, .int .i64 2, .bool true, .int .i64 0, .int .i64 0, .int .i64 0, .int .i64 0, .int .i64 0, .int .i64 0, .slice wa 0 wc, .int .i64 0, .slice aa 0 ac, .string ⟨#[]⟩, .int .i64 0, .slice qa 0 qc, .int .i64 0, .int .i64 0, .slice ta 0 tc] 29)).alloc (.cells #[.int .i64 0, .string ⟨#[97, 98, 99]⟩] 44)).alloc (.cells #[.int .i64 0, .int .i64 0, .bool false, .int .i64 0, .int .i64 0, .int .i64 0, .int .i64 0, .int .i64 0, .int .i64 0, .slice none 0 0, .int .i64 0, .slice none 0 0, .string ⟨#[]⟩, .int .i64 0, .slice none 0 0, .int .i64 0, .int .i64 0, .slice none 0 0] 29))) := ((Rg.Bk.new rfl).old _).old _
  have kP : Hid (Rg.Bk (w.heap.size + 1) [.int .i64 0, .string ⟨#[97, 98, 99]⟩] 44 (((w.alloc (.cells #[.int .i64 101, .int .i64 2, .bool true, .int .i64 0, .int .i64 0, .int .i64 0, .int .i64 0, .int .i64 0, .int .i64 0, .slice wa 0 wc, .int .i64 0, .slice aa 0 ac, .string ⟨#[]⟩, .int .i64 0, .slice qa 0 qc, .int .i64 0, .int .i64 0, .slice ta 0 tc] 29)).alloc (.cells #[.int .i64 0, .string ⟨#[97, 98, 99]⟩] 44)).alloc (.cells #[.int .i64 0, .int .i64 0, .bool false, .int .i64 0, .int .i64 0, .int .i64 0, .int .i64 0, .int .i64 0, .int .i64 0, .slice none 0 0, .int .i64 0, .slice none 0 0, .string ⟨#[]⟩, .int .i64 0, .slice none 0 0, .int .i64 0, .int .i64 0, .slice none 0 0] 29))) := (Rg.Bk.new (by simp)).old _
  have kR : Hid (Rg.Bk (w.heap.size + 2) [.int .i64 0, .int .i64 0, .bool false, .int .i64 0, .int .i64 0, .int .i64 0, .int .i64 0, .int .i64 0, .int .i64 0, .slice none 0 0, .int .i64 0, .slice none 0 0, .string ⟨#[]⟩, .int .i64 0, .slice none 0 0, .int .i64 0, .int .i64 0, .slice none 0 0] 29 (((w.alloc (.cells #[.int .i64 101, .int .i64 2, .bool true, .int .i64 0, .int .i64 0, .int .i64 0, .int .i64 0, .int .i64 0, .int .i64 0, .slice wa 0 wc, .int .i64 0, .slice aa 0 ac, .string ⟨#[]⟩, .int .i64 0, .slice qa 0 qc, .int .i64 0, .int .i64 0, .slice ta 0 tc] 29)).alloc (.cells #[.int .i64 0, .string ⟨#[97, 98, 99]⟩] 44)).alloc (.cells #[.int .i64 0, .int .i64 0, .bool false, .int .i64 0, .int .i64 0, .int .i64 0, .int .i64 0, .int .i64 0, .int .i64 0, .slice none 0 0, .int .i64 0, .slice none 0 0, .string ⟨#[]⟩, .int .i64 0, .slice none 0 0, .int .i64 0, .int .i64 0, .slice none 0 0] 29))) := Rg.Bk.new (by simp)
  have hb := Rg.hid (Rg.al3 w (.cells #[.int .i64 101, .int .i64 2, .bool true, .int .i64 0, .int .i64 0, .int .i64 0, .int .i64 0, .int .i64 0, .int .i64 0, .slice wa 0 wc, .int .i64 0, .slice aa 0 ac, .string ⟨#[]⟩, .int .i64 0, .slice qa 0 qc, .int .i64 0, .int .i64 0, .slice ta 0 tc] 29) (.cells #[.int .i64 0, .string ⟨#[97, 98, 99]⟩] 44) (.cells #[.int .i64 0, .int .i64 0, .bool false, .int .i64 0, .int .i64 0, .int .i64 0, .int .i64 0, .int .i64 0, .int .i64 0, .slice none 0 0, .int .i64 0, .slice none 0 0, .string ⟨#[]⟩, .int .i64 0, .slice none 0 0, .int .i64 0, .int .i64 0, .slice none 0 0] 29))
  go_enter Tryz.func36, Tryz.ntmps36
  go_upto_region 1 with fail
  generalize World.alloc _ _ = w1 at *
  obtain ⟨B, hB⟩ : ∃ B, B = w.heap.size := ⟨_, rfl⟩
  obtain ⟨P, hP⟩ : ∃ P, P = w.heap.size + 1 := ⟨_, rfl⟩
  obtain ⟨R, hR⟩ : ∃ R, R = w.heap.size + 2 := ⟨_, rfl⟩
  rw [← hR] at kR ⊢
  rw [← hP] at kP ⊢
  rw [← hB] at kB ⊢
  have hBw : Hid (w.heap.size ≤ B) := by show _ ≤ _; omega
  have hPw : Hid (w.heap.size ≤ P) := by show _ ≤ _; omega
  have hRw : Hid (w.heap.size ≤ R) := by show _ ≤ _; omega
  have nBP : B ≠ P := by omega
  have nBR : B ≠ R := by omega
  have nPR : P ≠ R := by omega
  clear hB hP hR
  have z17 : w1.cell? ⟨B, 17, none⟩ = some (.slice ta 0 tc) := kB.out.cell 17
  have f17 : w1.frozen? ⟨B, 17, none⟩ = false := kB.out.thaw 17
  go_upto_region 2 with fail
  have kB2 : Hid (Rg.Bk B [.int .i64 101, .int .i64 2, .bool true, .int .i64 0, .int .i64 0, .int .i64 0, .int .i64 0, .int .i64 0, .int .i64 0, .slice wa 0 wc, .int .i64 0, .slice aa 0 ac, .string ⟨#[]⟩, .int .i64 0, .slice qa 0 qc, .int .i64 0, .int .i64 0, .slice none 0 0] 29 (w1.setCell ⟨B, 17, none⟩ (.slice none 0 0))) := kB.out.set 17 _
  have kP2 := Rg.hid (kP.out.other nBP.symm (i := 17) (.slice none 0 0))
  have kR2 := Rg.hid (kR.out.other nBR.symm (i := 17) (.slice none 0 0))
  have hb2 : Hid (Below w.heap.size w (w1.setCell ⟨B, 17, none⟩ (.slice none 0 0))) := hb.out.trans ((Rg.Only.setCell w1 B 17 _).bel hBw.out)
  clear z17 f17 kB kP kR hb
  generalize World.setCell _ _ _ = w2 at *
  have hl2 := Rg.hid (Rg.row_loadVar (P := Tryz.prog) (t := 29) (CS := #[.int .i64 101, .int .i64 2, .bool true, .int .i64 0, .int .i64 0, .int .i64 0, .int .i64 0, .int .i64 0, .int .i64 0, .slice wa 0 wc, .int .i64 0, .slice aa 0 ac, .string ⟨#[]⟩, .int .i64 0, .slice qa 0 qc, .int .i64 0, .int .i64 0, .slice none 0 0]) kB2.out Tryz.underlying29 rfl xinfoDr)
  go_upto_region 4 with (first | (refine Rg.wpList_load_row rfl (.tmp 2) 29 rfl rfl hl2.out ?_) | (go_at_call 38; refine (HR.out _).mono ?_; rintro e w3 ⟨rfl, b3⟩; have kB3 := Rg.hid (kB2.out.below b3 kB2.out.lt); have kP3 := Rg.hid (kP2.out.below b3 kP2.out.lt); have kR3 := Rg.hid (kR2.out.below b3 kR2.out.lt); have hb3 := Rg.hid (Rg.chain hb2.out b3); have z1 : w3.cell? ⟨B, 1, none⟩ = some (.int .i64 2) := kB3.out.cell 1; clear b3 hl2 kB2 kP2 kR2 hb2 HR))
  clear z1
  have hdr : Hid (Below w3.heap.size w3 w3.drew) := (Below.refl _ _).drew
  obtain ⟨w4, st4, k4, o4⟩ := (xE 0 wa aa qa none wc ac qc 0 w3).over (xzDH w3) kR3.out.drew
  have hres := Rg.hid (Rg.row_loadVar (P := Tryz.prog) (t := 29) (CS := #[.int .i64 101, .int .i64 2, .bool true, .int .i64 0, .int .i64 0, .int .i64 0, .int .i64 0, .int .i64 0, .int .i64 0, .slice wa 0 wc, .int .i64 0, .slice aa 0 ac, .string ⟨#[]⟩, .int .i64 0, .slice qa 0 qc, .int .i64 0, .int .i64 0, .slice none 0 0]) k4.out Tryz.underlying29 rfl xinfoDr)
  have hfe := Rg.hid (hb3.out.drew.trans (o4.out.bel hRw.out))
  refine wp_region_held_drew (S := fun (w' : World) => Rg.Bk B [.int .i64 101, .int .i64 2, .bool true, .int .i64 0, .int .i64 0, .int .i64 0, .int .i64 0, .int .i64 0, .int .i64 0, .slice wa 0 wc, .int .i64 0, .slice aa 0 ac, .string ⟨#[]⟩, .int .i64 0, .slice qa 0 qc, .int .i64 0, .int .i64 0, .slice none 0 0] 29 w' ∧ Rg.Bk P [.int .i64 0, .string ⟨#[97, 98, 99]⟩] 44 w') (by kernel_rfl) ?_ (fun hH0 => ?_)
  · exact ⟨kB3.out, kP3.out⟩
  refine wpAnyH_take (i := 0) (oi := { dst := some 16, op := _, type := _, pos := _, after := _, guard := _ }) (v := .agg #[.int .i64 101, .int .i64 2, .bool true, .int .i64 0, .int .i64 0, .int .i64 0, .int .i64 0, .int .i64 0, .int .i64 0, .slice wa 0 wc, .int .i64 0, .slice aa 0 ac, .string ⟨#[]⟩, .int .i64 0, .slice qa 0 qc, .int .i64 0, .int .i64 0, .slice none 0 0]) rfl (by kernel_rfl) (by kernel_rfl) (by kernel_rfl) (fun _ _ _ h => h) (Or.inl ⟨by rfl, fun w hSw => iexec_load_row _ _ rfl rfl (ldE wa aa qa none wc ac qc 0 0 hSw.1)⟩) (by assumption) ?_
  simp only [Act.put, List.setIfInBounds_toArray, List.set_cons_zero, List.set_cons_succ]
  refine wpAnyH_take (i := 1) (oi := { dst := some 17, op := _, type := _, pos := _, after := _, guard := _ }) (v := ?_) rfl (by kernel_rfl) (by kernel_rfl) (by kernel_rfl) (fun _ _ _ h => h) (Or.inl ⟨by rfl, ?_⟩) (by assumption) ?_
  rotate_left
  · (intro w hSw; clear hSw; go_simp); (try with_reducible rfl)
  simp only [Act.put, List.setIfInBounds_toArray, List.set_cons_zero, List.set_cons_succ]
  refine wpAnyH_take (i := 2) (oi := { dst := some 18, op := _, type := _, pos := _, after := _, guard := _ }) (v := .string ⟨#[97, 98, 99]⟩) rfl (by kernel_rfl) (by kernel_rfl) (by kernel_rfl) (fun _ _ _ h => h) (Or.inl ⟨by rfl, ?_⟩) (by assumption) ?_
  · intro w hSw; have c1 := hSw.2.cell 1; clear hSw; go_simp; (try with_reducible rfl)
  simp only [Act.put, List.setIfInBounds_toArray, List.set_cons_zero, List.set_cons_succ]
  refine wpAnyH_ready (rs := [3]) (by kernel_rfl) (by simp) ?_
  refine AllReadyH.cons (o := { dst := none, op := _, type := _, pos := _, after := _, guard := _ }) rfl (fun K hK => ?_) AllReadyH.nil
  refine istep_store_row (by rfl) (.tmp 4) (.tmp 16) 29 (by rfl) (by rfl) (by rfl) st4.out ?_
  refine hK.out _ _ ?_ (fun hH1 => ?_)
  · exact ⟨kB3.out.drew.same (o4.out.block _ nBR), kP3.out.drew.same (o4.out.block _ nPR)⟩
  clear hK K hH0
  simp only [Act.put]
  refine wpAnyH_take (i := 4) (oi := { dst := some 5, op := _, type := _, pos := _, after := _, guard := _ }) (v := ?_) rfl (by kernel_rfl) (by kernel_rfl) (by kernel_rfl) (fun _ _ _ h => h) (Or.inl ⟨by rfl, ?_⟩) (by assumption) ?_
  rotate_left
  · (intro w hSw; clear hSw; go_simp); (try with_reducible rfl)
  simp only [Act.put, List.setIfInBounds_toArray, List.set_cons_zero, List.set_cons_succ]
  refine wpAnyH_done (by kernel_rfl) ?_ _
  go_wp2_with fail
  exact bodyPost_ret (v := .tuple #[.agg #[.int .i64 101, .int .i64 2, .bool true, .int .i64 0, .int .i64 0, .int .i64 0, .int .i64 0, .int .i64 0, .int .i64 0, .slice wa 0 wc, .int .i64 0, .slice aa 0 ac, .string ⟨#[]⟩, .int .i64 0, .slice qa 0 qc, .int .i64 0, .int .i64 0, .slice none 0 0], .string ⟨#[97, 98, 99]⟩]) (xresults_row2 rfl rfl rfl hres.out) rfl ⟨rfl, hfe.out⟩
theorem xinfoPc : (Tryz.prog.info? 44).map (·.size) = some 2 := by kernel_rfl
theorem ldP {B : Nat} {W : World} (k : Rg.Bk B [.int .i64 0, .string ⟨#[97, 98, 99]⟩] 44 W) : (loadVar 44 ⟨B, 0, none⟩).run Tryz.prog W = .ok (.agg #[.int .i64 0, .string ⟨#[97, 98, 99]⟩]) W := Rg.row_loadVar (P := Tryz.prog) (t := 44) (CS := #[.int .i64 0, .string ⟨#[97, 98, 99]⟩]) k Tryz.underlying44 rfl xinfoPc
theorem dsend_fd : ∀ w : World, (Instr.field 50 (.agg #[.func (.func 33) #[] #[], .func (.func 34) #[] #[], .func (.func 35) #[] #[], .func (.func 36) #[] #[], .func (.func 37) #[] #[], .func (.func 38) #[] #[]]) 3).run Tryz.prog w = .ok (.func (.func 36) #[] #[]) w := fun _ => by kernel_rfl
theorem dsend_eg : ∀ args w, (callFunc 36 args).run Tryz.prog w = .ok (.enter 36 args) w := enters_of Tryz.func36 (by kernel_rfl) rfl
set_option maxHeartbeats 2000000 in
set_option maxRecDepth 100000 in
theorem dsend (wa aa qa ta : Option Addr) (wc ac qc tc : Nat) (w : World) : Calls Tryz.prog 11 #[.agg #[.int .i64 101, .int .i64 2, .bool true, .int .i64 0, .int .i64 0, .int .i64 0, .int .i64 0, .int .i64 0, .int .i64 0, .slice wa 0 wc, .int .i64 0, .slice aa 0 ac, .string ⟨#[]⟩, .int .i64 0, .slice qa 0 qc, .int .i64 0, .int .i64 0, .slice ta 0 tc], .agg #[.int .i64 0, .string ⟨#[97, 98, 99]⟩]] w fun e w' => e = .returned (.tuple #[.agg #[.int .i64 101, .int .i64 2, .bool true, .int .i64 0, .int .i64 0, .int .i64 0, .int .i64 0, .int .i64 0, .int .i64 0, .slice wa 0 wc, .int .i64 0, .slice aa 0 ac, .string ⟨#[]⟩, .int .i64 0, .slice qa 0 qc, .int .i64 0, .int .i64 0, .slice none 0 0], .string ⟨#[97, 98, 99]⟩]) ∧ Below w.heap.size w w' := by
  have HC : Hid (∀ W, Calls Tryz.prog 19 #[.agg #[.int .i64 101, .int .i64 2, .bool true, .int .i64 0, .int .i64 0, .int .i64 0, .int .i64 0, .int .i64 0, .int .i64 0, .slice wa 0 wc, .int .i64 0, .slice aa 0 ac, .string ⟨#[]⟩, .int .i64 0, .slice qa 0 qc, .int .i64 0, .int .i64 0, .slice ta 0 tc]] W fun e w' => e = .returned (.int .i64 1) ∧ Below W.heap.size W w') := fun W => dchan 101 rfl _ _ _ _ _ _ _ _ _ _ _ _ _ _ _ _ _ _ _ W
  have HP : Hid (∀ W, Calls Tryz.prog 15 #[.int .i64 101] W fun e w' => e = .returned (.agg #[.func (.func 33) #[] #[], .func (.func 34) #[] #[], .func (.func 35) #[] #[], .func (.func 36) #[] #[], .func (.func 37) #[] #[], .func (.func 38) #[] #[]]) ∧ Below W.heap.size W w') := fun W => proto_e W 101 rfl rfl rfl
  have HS : Hid (∀ W, Calls Tryz.prog 36 #[.agg #[.int .i64 101, .int .i64 2, .bool true, .int .i64 0, .int .i64 0, .int .i64 0, .int .i64 0, .int .i64 0, .int .i64 0, .slice wa 0 wc, .int .i64 0, .slice aa 0 ac, .string ⟨#[]⟩, .int .i64 0, .slice qa 0 qc, .int .i64 0, .int .i64 0, .slice ta 0 tc], .agg #[.int .i64 0, .string ⟨#[97, 98, 99]⟩]] W fun e w' => e = .returned (.tuple #[.agg #[.int .i64 101, .int .i64 2, .bool true, .int .i64 0, .int .i64 0, .int .i64 0, .int .i64 0, .int .i64 0, .int .i64 0, .slice wa 0 wc, .int .i64 0, .slice aa 0 ac, .string ⟨#[]⟩, .int .i64 0, .slice qa 0 qc, .int .i64 0, .int .i64 0, .slice none 0 0], .string ⟨#[97, 98, 99]⟩]) ∧ Below W.heap.size W w') := dsendP wa aa qa ta wc ac qc tc
  have eg := dsend_eg
  have fd := dsend_fd
  have kB : Hid (Rg.Bk w.heap.size [.int .i64 101, .int .i64 2, .bool true, .int .i64 0, .int .i64 0, .int .i64 0, .int .i64 0, .int .i64 0, .int .i64 0, .slice wa 0 wc, .int .i64 0, .slice aa 0 ac, .string ⟨#[]⟩, .int .i64 0, .slice qa 0 qc, .int .i64 0, .int .i64 0, .slice ta 0 tc] 29 (((w.alloc (.cells #[.int .i64 101, .int .i64 2, .bool true, .int .i64 0, .int .i64 0, .int .i64 0, .int .i64 0, .int .i64 0, .int .i64 0, .slice wa 0 wc, .int .i64 0, .slice aa 0 ac, .string ⟨#[]⟩, .int .i64 0, .slice qa 0 qc, .int .i64 0, .int .i64 0, .slice ta 0 tc] 29)).alloc (.cells #[.int .i64 0, .string ⟨#[97, 98, 99]⟩] 44)).alloc (.cells #[.int .i64 0, .int .i64 0, .bool false, .int .i64 0, .int .i64 0, .int .i64 0, .int .i64 0, .int .i64 0, .int .i64 0, .slice none 0 0, .int .i64 0, .slice none 0 0, .string ⟨#[]⟩, .int .i64 0, .slice none 0 0, .int .i64 0, .int .i64 0, .slice none 0 0] 29))) := ((Rg.Bk.new rfl).old _).old _
  have kP : Hid (Rg.Bk (w.heap.size + 1) [.int .i64 0, .string ⟨#[97, 98, 99]⟩] 44 (((w.alloc (.cells #[.int .i64 101, .int .i64 2, .bool true, .int .i64 0, .int .i64 0, .int .i64 0, .int .i64 0, .int .i64 0, .int .i64 0, .slice wa 0 wc, .int .i64 0, .slice aa 0 ac, .string ⟨#[]⟩, .int .i64 0, .slice qa 0 qc, .int .i64 0, .int .i64 0, .slice ta 0 tc] 29)).alloc (.cells #[.int .i64 0, .string ⟨#[97, 98, 99]⟩] 44)).alloc (.cells #[.int .i64 0, .int .i64 0, .bool false, .int .i64 0, .int .i64 0, .int .i64 0, .int .i64 0, .int .i64 0, .int .i64 0, .slice none 0 0, .int .i64 0, .slice none 0 0, .string ⟨#[]⟩, .int .i64 0, .slice none 0 0, .int .i64 0, .int .i64 0, .slice none 0 0] 29))) := (Rg.Bk.new (by simp)).old _
  have kR : Hid (Rg.Bk (w.heap.size + 2) [.int .i64 0, .int .i64 0, .bool false, .int .i64 0, .int .i64 0, .int .i64 0, .int .i64 0, .int .i64 0, .int .i64 0, .slice none 0 0, .int .i64 0, .slice none 0 0, .string ⟨#[]⟩, .int .i64 0, .slice none 0 0, .int .i64 0, .int .i64 0, .slice none 0 0] 29 (((w.alloc (.cells #[.int .i64 101, .int .i64 2, .bool true, .int .i64 0, .int .i64 0, .int .i64 0, .int .i64 0, .int .i64 0, .int .i64 0, .slice wa 0 wc, .int .i64 0, .slice aa 0 ac, .string ⟨#[]⟩, .int .i64 0, .slice qa 0 qc, .int .i64 0, .int .i64 0, .slice ta 0 tc] 29)).alloc (.cells #[.int .i64 0, .string ⟨#[97, 98, 99]⟩] 44)).alloc (.cells #[.int .i64 0, .int .i64 0, .bool false, .int .i64 0, .int .i64 0, .int .i64 0, .int .i64 0, .int .i64 0, .int .i64 0, .slice none 0 0, .int .i64 0, .slice none 0 0, .string ⟨#[]⟩, .int .i64 0, .slice none 0 0, .int .i64 0, .int .i64 0, .slice none 0 0] 29))) := Rg.Bk.new (by simp)
  have hb := Rg.hid (Rg.al3 w (.cells #[.int .i64 101, .int .i64 2, .bool true, .int .i64 0, .int .i64 0, .int .i64 0, .int .i64 0, .int .i64 0, .int .i64 0, .slice wa 0 wc, .int .i64 0, .slice aa 0 ac, .string ⟨#[]⟩, .int .i64 0, .slice qa 0 qc, .int .i64 0, .int .i64 0, .slice ta 0 tc] 29) (.cells #[.int .i64 0, .string ⟨#[97, 98, 99]⟩] 44) (.cells #[.int .i64 0, .int .i64 0, .bool false, .int .i64 0, .int .i64 0, .int .i64 0, .int .i64 0, .int .i64 0, .int .i64 0, .slice none 0 0, .int .i64 0, .slice none 0 0, .string ⟨#[]⟩, .int .i64 0, .slice none 0 0, .int .i64 0, .int .i64 0, .slice none 0 0] 29))
  go_enter Tryz.func11, Tryz.ntmps11
  go_upto_region 1 with fail
  generalize World.alloc _ _ = w1 at *
  obtain ⟨B, hB⟩ : ∃ B, B = w.heap.size := ⟨_, rfl⟩
  obtain ⟨P, hP⟩ : ∃ P, P = w.heap.size + 1 := ⟨_, rfl⟩
  obtain ⟨R, hR⟩ : ∃ R, R = w.heap.size + 2 := ⟨_, rfl⟩
  rw [← hR] at kR ⊢
  rw [← hP] at kP ⊢
  rw [← hB] at kB ⊢
  have hBw : Hid (w.heap.size ≤ B) := by show _ ≤ _; omega
  have hPw : Hid (w.heap.size ≤ P) := by show _ ≤ _; omega
  have hRw : Hid (w.heap.size ≤ R) := by show _ ≤ _; omega
  have nBP : B ≠ P := by omega
  have nBR : B ≠ R := by omega
  have nPR : P ≠ R := by omega
  clear hB hP hR
  refine wp_region_held_drew (S := fun (w' : World) => Rg.Bk B [.int .i64 101, .int .i64 2, .bool true, .int .i64 0, .int .i64 0, .int .i64 0, .int .i64 0, .int .i64 0, .int .i64 0, .slice wa 0 wc, .int .i64 0, .slice aa 0 ac, .string ⟨#[]⟩, .int .i64 0, .slice qa 0 qc, .int .i64 0, .int .i64 0, .slice ta 0 tc] 29 w' ∧ Rg.Bk P [.int .i64 0, .string ⟨#[97, 98, 99]⟩] 44 w') (by kernel_rfl) ?_ (fun hH0 => ?_)
  · exact ⟨kB.out, kP.out⟩
  refine wpAnyH_take (i := 0) (oi := { dst := some 6, op := _, type := _, pos := _, after := _, guard := _ }) (v := ?_) rfl (by kernel_rfl) (by kernel_rfl) (by kernel_rfl) (fun _ _ _ h => h) (Or.inl ⟨by rfl, ?_⟩) (by assumption) ?_
  rotate_left
  · (intro w hSw; clear hSw; go_simp); (try with_reducible rfl)
  simp only [Act.put, List.setIfInBounds_toArray, List.set_cons_zero, List.set_cons_succ]
  refine wpAnyH_take (i := 1) (oi := { dst := some 7, op := _, type := _, pos := _, after := _, guard := _ }) (v := .int .i64 0) rfl (by kernel_rfl) (by kernel_rfl) (by kernel_rfl) (fun _ _ _ h => h) (Or.inl ⟨by rfl, ?_⟩) (by assumption) ?_
  · intro w hSw; have c1 := hSw.2.cell 0; clear hSw; go_simp; (try with_reducible rfl)
  simp only [Act.put, List.setIfInBounds_toArray, List.set_cons_zero, List.set_cons_succ]
  refine wpAnyH_take (i := 2) (oi := { dst := some 8, op := _, type := _, pos := _, after := _, guard := _ }) (v := ?_) rfl (by kernel_rfl) (by kernel_rfl) (by kernel_rfl) (fun _ _ _ h => h) (Or.inl ⟨by rfl, ?_⟩) (by assumption) ?_
  rotate_left
  · (intro w hSw; clear hSw; go_simp); (try with_reducible rfl)
  simp only [Act.put, List.setIfInBounds_toArray, List.set_cons_zero, List.set_cons_succ]
  refine wpAnyH_take (i := 3) (oi := { dst := some 9, op := _, type := _, pos := _, after := _, guard := _ }) (v := ?_) rfl (by kernel_rfl) (by kernel_rfl) (by kernel_rfl) (fun _ _ _ h => h) (Or.inl ⟨by rfl, ?_⟩) (by assumption) ?_
  rotate_left
  · (intro w hSw; clear hSw; go_simp); (try with_reducible rfl)
  simp only [Act.put, List.setIfInBounds_toArray, List.set_cons_zero, List.set_cons_succ]
  refine wpAnyH_take (i := 4) (oi := { dst := some 10, op := _, type := _, pos := _, after := _, guard := _ }) (v := ?_) rfl (by kernel_rfl) (by kernel_rfl) (by kernel_rfl) (fun _ _ _ h => h) (Or.inl ⟨by rfl, ?_⟩) (by assumption) ?_
  rotate_left
  · (intro w hSw; clear hSw; go_simp); (try with_reducible rfl)
  simp only [Act.put, List.setIfInBounds_toArray, List.set_cons_zero, List.set_cons_succ]
  refine wpAnyH_take (i := 5) (oi := { dst := some 11, op := _, type := _, pos := _, after := _, guard := _ }) (v := .int .i64 0) rfl (by kernel_rfl) (by kernel_rfl) (by kernel_rfl) (fun _ _ _ h => h) (Or.inl ⟨by rfl, ?_⟩) (by assumption) ?_
  · intro w hSw; have c1 := hSw.2.cell 0; clear hSw; go_simp; (try with_reducible rfl)
  simp only [Act.put, List.setIfInBounds_toArray, List.set_cons_zero, List.set_cons_succ]
  refine wpAnyH_take (i := 6) (oi := { dst := some 12, op := _, type := _, pos := _, after := _, guard := _ }) (v := .agg #[.int .i64 101, .int .i64 2, .bool true, .int .i64 0, .int .i64 0, .int .i64 0, .int .i64 0, .int .i64 0, .int .i64 0, .slice wa 0 wc, .int .i64 0, .slice aa 0 ac, .string ⟨#[]⟩, .int .i64 0, .slice qa 0 qc, .int .i64 0, .int .i64 0, .slice ta 0 tc]) rfl (by kernel_rfl) (by kernel_rfl) (by kernel_rfl) (fun _ _ _ h => h) (Or.inl ⟨by rfl, fun w hSw => iexec_load_row _ _ rfl rfl (ldE wa aa qa ta wc ac qc tc 0 hSw.1)⟩) (by assumption) ?_
  simp only [Act.put, List.setIfInBounds_toArray, List.set_cons_zero, List.set_cons_succ]
  refine wpAnyH_ready (rs := [7]) (by kernel_rfl) (by simp) ?_
  refine AllReadyH.cons (o := { dst := some 13, op := _, type := _, pos := _, after := _, guard := _ }) rfl (fun K hK => ?_) AllReadyH.nil
  go_simp; go_at_call 19; refine (HC.out _).mono ?_; rintro e w2 ⟨rfl, b2⟩; have kB2 := Rg.hid (kB.out.drew.below b2 kB.out.lt); have kP2 := Rg.hid (kP.out.drew.below b2 kP.out.lt); have kR2 := Rg.hid (kR.out.drew.below b2 kR.out.lt); have hb2 := Rg.hid (Rg.chain hb.out.drew b2)
  refine hK.out _ _ ?_ (fun hH1 => ?_)
  · exact ⟨kB2.out, kP2.out⟩
  clear hK K hH0
  clear kB kP kR hb b2
  refine wpAnyH_take (i := 8) (oi := { dst := some 14, op := _, type := _, pos := _, after := _, guard := _ }) (v := ?_) rfl (by kernel_rfl) (by kernel_rfl) (by kernel_rfl) (fun _ _ _ h => h) (Or.inl ⟨by rfl, ?_⟩) (by assumption) ?_
  rotate_left
  · (intro w hSw; clear hSw; go_simp); (try with_reducible rfl)
  simp only [Act.put, List.setIfInBounds_toArray, List.set_cons_zero, List.set_cons_succ]
  refine wpAnyH_take (i := 9) (oi := { dst := some 15, op := _, type := _, pos := _, after := _, guard := _ }) (v := ?_) rfl (by kernel_rfl) (by kernel_rfl) (by kernel_rfl) (fun _ _ _ h => h) (Or.inl ⟨by rfl, ?_⟩) (by assumption) ?_
  rotate_left
  · (intro w hSw; clear hSw; go_simp); (try with_reducible rfl)
  simp only [Act.put, List.setIfInBounds_toArray, List.set_cons_zero, List.set_cons_succ]
  refine wpAnyH_done (by kernel_rfl) ?_ _
  clear hH1
  go_upto_region 4 with fail
  refine wp_region_held_drew (S := fun (w' : World) => Rg.Bk B [.int .i64 101, .int .i64 2, .bool true, .int .i64 0, .int .i64 0, .int .i64 0, .int .i64 0, .int .i64 0, .int .i64 0, .slice wa 0 wc, .int .i64 0, .slice aa 0 ac, .string ⟨#[]⟩, .int .i64 0, .slice qa 0 qc, .int .i64 0, .int .i64 0, .slice ta 0 tc] 29 w' ∧ Rg.Bk P [.int .i64 0, .string ⟨#[97, 98, 99]⟩] 44 w') (by kernel_rfl) ?_ (fun hH0 => ?_)
  · exact ⟨kB2.out, kP2.out⟩
  refine wpAnyH_take (i := 0) (oi := { dst := some 18, op := _, type := _, pos := _, after := _, guard := _ }) (v := ?_) rfl (by kernel_rfl) (by kernel_rfl) (by kernel_rfl) (fun _ _ _ h => h) (Or.inl ⟨by rfl, ?_⟩) (by assumption) ?_
  rotate_left
  · (intro w hSw; clear hSw; go_simp); (try with_reducible rfl)
  simp only [Act.put, List.setIfInBounds_toArray, List.set_cons_zero, List.set_cons_succ]
  refine wpAnyH_take (i := 1) (oi := { dst := some 19, op := _, type := _, pos := _, after := _, guard := _ }) (v := .int .i64 101) rfl (by kernel_rfl) (by kernel_rfl) (by kernel_rfl) (fun _ _ _ h => h) (Or.inl ⟨by rfl, ?_⟩) (by assumption) ?_
  · intro w hSw; have c1 := hSw.1.cell 0; clear hSw; go_simp; (try with_reducible rfl)
  simp only [Act.put, List.setIfInBounds_toArray, List.set_cons_zero, List.set_cons_succ]
  refine wpAnyH_take (i := 4) (oi := { dst := some 22, op := _, type := _, pos := _, after := _, guard := _ }) (v := .agg #[.int .i64 101, .int .i64 2, .bool true, .int .i64 0, .int .i64 0, .int .i64 0, .int .i64 0, .int .i64 0, .int .i64 0, .slice wa 0 wc, .int .i64 0, .slice aa 0 ac, .string ⟨#[]⟩, .int .i64 0, .slice qa 0 qc, .int .i64 0, .int .i64 0, .slice ta 0 tc]) rfl (by kernel_rfl) (by kernel_rfl) (by kernel_rfl) (fun _ _ _ h => h) (Or.inl ⟨by rfl, fun w hSw => iexec_load_row _ _ rfl rfl (ldE wa aa qa ta wc ac qc tc 0 hSw.1)⟩) (by assumption) ?_
  simp only [Act.put, List.setIfInBounds_toArray, List.set_cons_zero, List.set_cons_succ]
  refine wpAnyH_take (i := 5) (oi := { dst := some 23, op := _, type := _, pos := _, after := _, guard := _ }) (v := .agg #[.int .i64 0, .string ⟨#[97, 98, 99]⟩]) rfl (by kernel_rfl) (by kernel_rfl) (by kernel_rfl) (fun _ _ _ h => h) (Or.inl ⟨by rfl, fun w hSw => iexec_load_row _ _ rfl rfl (ldP hSw.2)⟩) (by assumption) ?_
  simp only [Act.put, List.setIfInBounds_toArray, List.set_cons_zero, List.set_cons_succ]
  refine wpAnyH_ready (rs := [2]) (by kernel_rfl) (by simp) ?_
  refine AllReadyH.cons (o := { dst := some 20, op := _, type := _, pos := _, after := _, guard := _ }) rfl (fun K hK => ?_) AllReadyH.nil
  go_simp; go_at_call 15; refine (HP.out _).mono ?_; rintro e w3 ⟨rfl, b3⟩; have kB3 := Rg.hid (kB2.out.drew.below b3 kB2.out.lt); have kP3 := Rg.hid (kP2.out.drew.below b3 kP2.out.lt); have kR3 := Rg.hid (kR2.out.drew.below b3 kR2.out.lt); have hb3 := Rg.hid (Rg.chain hb2.out.drew b3)
  refine hK.out _ _ ?_ (fun hH1 => ?_)
  · exact ⟨kB3.out, kP3.out⟩
  clear hK K hH0
  clear kB2 kP2 kR2 hb2 b3
  refine wpAnyH_take (i := 3) (oi := { dst := some 21, op := _, type := _, pos := _, after := _, guard := _ }) (v := ?_) rfl (by kernel_rfl) (by kernel_rfl) (by kernel_rfl) (fun _ _ _ h => h) (Or.inl ⟨by rfl, ?_⟩) (by assumption) ?_
  rotate_left
  · (intro w hSw; clear hSw; go_simp); (try with_reducible rfl)
  simp only [Act.put, List.setIfInBounds_toArray, List.set_cons_zero, List.set_cons_succ]
  refine wpAnyH_ready (rs := [6]) (by kernel_rfl) (by simp) ?_
  refine AllReadyH.cons (o := { dst := some 24, op := _, type := _, pos := _, after := _, guard := _ }) rfl (fun K hK => ?_) AllReadyH.nil
  go_simp; go_at_fn 36; refine (HS.out _).mono ?_; rintro e w4 ⟨rfl, b4⟩; have kB4 := Rg.hid (kB3.out.below b4 kB3.out.lt); have kP4 := Rg.hid (kP3.out.below b4 kP3.out.lt); have kR4 := Rg.hid (kR3.out.below b4 kR3.out.lt); have hb4 := Rg.hid (Rg.chain hb3.out b4)
  refine hK.out _ _ ?_ (fun hH2 => ?_)
  · exact ⟨kB4.out, kP4.out⟩
  clear hK K hH1
  clear kB3 kP3 kR3 hb3 b4
  refine wpAnyH_take (i := 7) (oi := { dst := some 25, op := _, type := _, pos := _, after := _, guard := _ }) (v := ?_) rfl (by kernel_rfl) (by kernel_rfl) (by kernel_rfl) (fun _ _ _ h => h) (Or.inl ⟨by rfl, ?_⟩) (by assumption) ?_
  rotate_left
  · (intro w hSw; clear hSw; go_simp); (try with_reducible rfl)
  simp only [Act.put, List.setIfInBounds_toArray, List.set_cons_zero, List.set_cons_succ]
  refine wpAnyH_take (i := 8) (oi := { dst := some 26, op := _, type := _, pos := _, after := _, guard := _ }) (v := ?_) rfl (by kernel_rfl) (by kernel_rfl) (by kernel_rfl) (fun _ _ _ h => h) (Or.inl ⟨by rfl, ?_⟩) (by assumption) ?_
  rotate_left
  · (intro w hSw; clear hSw; go_simp); (try with_reducible rfl)
  simp only [Act.put, List.setIfInBounds_toArray, List.set_cons_zero, List.set_cons_succ]
  obtain ⟨w5, st5, k5, o5⟩ := (xE 0 wa aa qa none wc ac qc 0 w4).over (xzDH w4) kR4.out
  have hres := Rg.hid (Rg.row_loadVar (P := Tryz.prog) (t := 29) (CS := #[.int .i64 101, .int .i64 2, .bool true, .int .i64 0, .int .i64 0, .int .i64 0, .int .i64 0, .int .i64 0, .int .i64 0, .slice wa 0 wc, .int .i64 0, .slice aa 0 ac, .string ⟨#[]⟩, .int .i64 0, .slice qa 0 qc, .int .i64 0, .int .i64 0, .slice none 0 0]) k5.out Tryz.underlying29 rfl xinfoDr)
  have hfe := Rg.hid (hb4.out.trans (o5.out.bel hRw.out))
  refine wpAnyH_ready (rs := [9]) (by kernel_rfl) (by simp) ?_
  refine AllReadyH.cons (o := { dst := none, op := _, type := _, pos := _, after := _, guard := _ }) rfl (fun K hK => ?_) AllReadyH.nil
  refine istep_store_row (by rfl) (.tmp 4) (.tmp 25) 29 (by rfl) (by rfl) (by rfl) st5.out ?_
  refine hK.out _ _ ?_ (fun hH3 => ?_)
  · exact ⟨kB4.out.same (o5.out.block _ nBR), kP4.out.same (o5.out.block _ nPR)⟩
  clear hK K hH2
  simp only [Act.put]
  refine wpAnyH_take (i := 10) (oi := { dst := some 5, op := _, type := _, pos := _, after := _, guard := _ }) (v := ?_) rfl (by kernel_rfl) (by kernel_rfl) (by kernel_rfl) (fun _ _ _ h => h) (Or.inl ⟨by rfl, ?_⟩) (by assumption) ?_
  rotate_left
  · (intro w hSw; clear hSw; go_simp); (try with_reducible rfl)
  simp only [Act.put, List.setIfInBounds_toArray, List.set_cons_zero, List.set_cons_succ]
  refine wpAnyH_done (by kernel_rfl) ?_ _
  go_wp2_with fail
  exact bodyPost_ret (v := .tuple #[.agg #[.int .i64 101, .int .i64 2, .bool true, .int .i64 0, .int .i64 0, .int .i64 0, .int .i64 0, .int .i64 0, .int .i64 0, .slice wa 0 wc, .int .i64 0, .slice aa 0 ac, .string ⟨#[]⟩, .int .i64 0, .slice qa 0 qc, .int .i64 0, .int .i64 0, .slice none 0 0], .string ⟨#[97, 98, 99]⟩]) (xresults_row2 rfl rfl rfl hres.out) rfl ⟨rfl, hfe.out⟩
set_option maxHeartbeats 2000000 in
set_option maxRecDepth 100000 in
theorem dfeedP (wa aa qa ta : Option Addr) (wc ac qc tc : Nat) (w : World) : Calls Tryz.prog 34 #[.agg #[.int .i64 101, .int .i64 2, .bool true, .int .i64 0, .int .i64 0, .int .i64 0, .int .i64 0, .int .i64 0, .int .i64 0, .slice wa 0 wc, .int .i64 0, .slice aa 0 ac, .string ⟨#[]⟩, .int .i64 0, .slice qa 0 qc, .int .i64 0, .int .i64 0, .slice ta 0 tc], .string ⟨#[120, 121]⟩] w fun e w' => ∃ g, e = .returned (.tuple #[.agg #[.int .i64 101, .int .i64 2, .bool true, .int .i64 0, .int .i64 0, .int .i64 0, .int .i64 0, .int .i64 0, .int .i64 0, .slice wa 0 wc, .int .i64 0, .slice aa 0 ac, .string ⟨#[]⟩, .int .i64 2, .slice qa 0 qc, .int .i64 0, .int .i64 0, .slice none 0 0], .string ⟨#[]⟩, .slice (some ⟨g, 0, none⟩) 1 1]) ∧ Hid (Rg.Bk g [.int .i64 0, .string ⟨#[120, 121]⟩] 44 w') ∧ Hid (w.heap.size ≤ g) ∧ Hid (Below w.heap.size w w') := by
  have HR : Hid (∀ W, Calls Tryz.prog 38 #[.agg #[.int .i64 101, .int .i64 2, .bool true, .int .i64 0, .int .i64 0, .int .i64 0, .int .i64 0, .int .i64 0, .int .i64 0, .slice wa 0 wc, .int .i64 0, .slice aa 0 ac, .string ⟨#[]⟩, .int .i64 0, .slice qa 0 qc, .int .i64 0, .int .i64 0, .slice none 0 0]] W fun e w' => e = .returned (.bool true) ∧ Below W.heap.size W w') := dright wa aa qa none wc ac qc 0
  have kB : Hid (Rg.Bk w.heap.size [.int .i64 101, .int .i64 2, .bool true, .int .i64 0, .int .i64 0, .int .i64 0, .int .i64 0, .int .i64 0, .int .i64 0, .slice wa 0 wc, .int .i64 0, .slice aa 0 ac, .string ⟨#[]⟩, .int .i64 0, .slice qa 0 qc, .int .i64 0, .int .i64 0, .slice ta 0 tc] 29 ((w.alloc (.cells #[.int .i64 101, .int .i64 2, .bool true, .int .i64 0, .int .i64 0, .int .i64 0, .int .i64 0, .int .i64 0, .int .i64 0, .slice wa 0 wc, .int .i64 0, .slice aa 0 ac, .string ⟨#[]⟩, .int .i64 0, .slice qa 0 qc, .int .i64 0, .int .i64 0, .slice ta 0 tc] 29)).alloc (.cells #[.int .i64 0, .int .i64 0, .bool false, .int .i64 0, .int .i64 0, .int .i64 0, .int .i64 0, .int .i64 0, .int .i64 0, .slice none 0 0, .int .i64 0, .slice none 0 0, .string ⟨#[]⟩, .int .i64 0, .slice none 0 0, .int .i64 0, .int .i64 0, .slice none 0 0] 29))) := (Rg.Bk.new rfl).old _
  have kR : Hid (Rg.Bk (w.heap.size + 1) [.int .i64 0, .int .i64 0, .bool false, .int .i64 0, .int .i64 0, .int .i64 0, .int .i64 0, .int .i64 0, .int .i64 0, .slice none 0 0, .int .i64 0, .slice none 0 0, .string ⟨#[]⟩, .int .i64 0, .slice none 0 0, .int .i64 0, .int .i64 0, .slice none 0 0] 29 ((w.alloc (.cells #[.int .i64 101, .int .i64 2, .bool true, .int .i64 0, .int .i64 0, .int .i64 0, .int .i64 0, .int .i64 0, .int .i64 0, .slice wa 0 wc, .int .i64 0, .slice aa 0 ac, .string ⟨#[]⟩, .int .i64 0, .slice qa 0 qc, .int .i64 0, .int .i64 0, .slice ta 0 tc] 29)).alloc (.cells #[.int .i64 0, .int .i64 0, .bool false, .int .i64 0, .int .i64 0, .int .i64 0, .int .i64 0, .int .i64 0, .int .i64 0, .slice none 0 0, .int .i64 0, .slice none 0 0, .string ⟨#[]⟩, .int .i64 0, .slice none 0 0, .int .i64 0, .int .i64 0, .slice none 0 0] 29))) := Rg.Bk.new (by simp)
  have hb := Rg.hid (Rg.al2 w (.cells #[.int .i64 101, .int .i64 2, .bool true, .int .i64 0, .int .i64 0, .int .i64 0, .int .i64 0, .int .i64 0, .int .i64 0, .slice wa 0 wc, .int .i64 0, .slice aa 0 ac, .string ⟨#[]⟩, .int .i64 0, .slice qa 0 qc, .int .i64 0, .int .i64 0, .slice ta 0 tc] 29) (.cells #[.int .i64 0, .int .i64 0, .bool false, .int .i64 0, .int .i64 0, .int .i64 0, .int .i64 0, .int .i64 0, .int .i64 0, .slice none 0 0, .int .i64 0, .slice none 0 0, .string ⟨#[]⟩, .int .i64 0, .slice none 0 0, .int .i64 0, .int .i64 0, .slice none 0 0] 29))
  go_enter Tryz.func34, Tryz.ntmps34
  go_upto_region 1 with fail
  generalize World.alloc _ _ = w1 at *
  obtain ⟨B, hB⟩ : ∃ B, B = w.heap.size := ⟨_, rfl⟩
  obtain ⟨R, hR⟩ : ∃ R, R = w.heap.size + 1 := ⟨_, rfl⟩
  rw [← hR] at kR ⊢
  rw [← hB] at kB ⊢
  have hBw : Hid (w.heap.size ≤ B) := by show _ ≤ _; omega
  have hRw : Hid (w.heap.size ≤ R) := by show _ ≤ _; omega
  have nBR : B ≠ R := by omega
  clear hB hR
  have z17 : w1.cell? ⟨B, 17, none⟩ = some (.slice ta 0 tc) := kB.out.cell 17
  have f17 : w1.frozen? ⟨B, 17, none⟩ = false := kB.out.thaw 17
  go_upto_region 2 with fail
  have kB2 : Hid (Rg.Bk B [.int .i64 101, .int .i64 2, .bool true, .int .i64 0, .int .i64 0, .int .i64 0, .int .i64 0, .int .i64 0, .int .i64 0, .slice wa 0 wc, .int .i64 0, .slice aa 0 ac, .string ⟨#[]⟩, .int .i64 0, .slice qa 0 qc, .int .i64 0, .int .i64 0, .slice none 0 0] 29 (w1.setCell ⟨B, 17, none⟩ (.slice none 0 0))) := kB.out.set 17 _
  have kR2 := Rg.hid (kR.out.other nBR.symm (i := 17) (.slice none 0 0))
  have hb2 : Hid (Below w.heap.size w (w1.setCell ⟨B, 17, none⟩ (.slice none 0 0))) := hb.out.trans ((Rg.Only.setCell w1 B 17 _).bel hBw.out)
  clear z17 f17 kB kR hb
  generalize World.setCell _ _ _ = w2 at *
  have hl2 := Rg.hid (Rg.row_loadVar (P := Tryz.prog) (t := 29) (CS := #[.int .i64 101, .int .i64 2, .bool true, .int .i64 0, .int .i64 0, .int .i64 0, .int .i64 0, .int .i64 0, .int .i64 0, .slice wa 0 wc, .int .i64 0, .slice aa 0 ac, .string ⟨#[]⟩, .int .i64 0, .slice qa 0 qc, .int .i64 0, .int .i64 0, .slice none 0 0]) kB2.out Tryz.underlying29 rfl xinfoDr)
  go_upto_region 4 with (first | (refine Rg.wpList_load_row rfl (.tmp 2) 29 rfl rfl hl2.out ?_) | (go_at_call 38; refine (HR.out _).mono ?_; rintro e w3 ⟨rfl, b3⟩; have kB3 := Rg.hid (kB2.out.below b3 kB2.out.lt); have kR3 := Rg.hid (kR2.out.below b3 kR2.out.lt); have hb3 := Rg.hid (Rg.chain hb2.out b3); have z13 : w3.cell? ⟨B, 13, none⟩ = some (.int .i64 0) := kB3.out.cell 13; clear b3 hl2 kB2 kR2 hb2 HR))
  have f13 : w3.frozen? ⟨B, 13, none⟩ = false := kB3.out.thaw 13
  go_upto_region 5 with fail
  have em : min (2 : Int) 1099511627776 = 2 := by decide
  rw [em]
  have kB4 : Hid (Rg.Bk B [.int .i64 101, .int .i64 2, .bool true, .int .i64 0, .int .i64 0, .int .i64 0, .int .i64 0, .int .i64 0, .int .i64 0, .slice wa 0 wc, .int .i64 0, .slice aa 0 ac, .string ⟨#[]⟩, .int .i64 2, .slice qa 0 qc, .int .i64 0, .int .i64 0, .slice none 0 0] 29 (w3.setCell ⟨B, 13, none⟩ (.int .i64 2))) := kB3.out.set 13 _
  have kR4 := Rg.hid (kR3.out.other nBR.symm (i := 13) (.int .i64 2))
  have hb4 : Hid (Below w.heap.size w (w3.setCell ⟨B, 13, none⟩ (.int .i64 2))) := hb3.out.trans ((Rg.Only.setCell w3 B 13 _).bel hBw.out)
  clear z13 f13 kB3 kR3 hb3 em
  generalize World.setCell _ _ _ = w4 at *
  have z1 : w4.cell? ⟨B, 1, none⟩ = some (.int .i64 2) := kB4.out.cell 1
  go_upto_region 7 with fail
  clear z1
  have hl4 := Rg.hid (Rg.row_loadVar (P := Tryz.prog) (t := 29) (CS := #[.int .i64 101, .int .i64 2, .bool true, .int .i64 0, .int .i64 0, .int .i64 0, .int .i64 0, .int .i64 0, .int .i64 0, .slice wa 0 wc, .int .i64 0, .slice aa 0 ac, .string ⟨#[]⟩, .int .i64 2, .slice qa 0 qc, .int .i64 0, .int .i64 0, .slice none 0 0]) kB4.out Tryz.underlying29 rfl xinfoDr)
  obtain ⟨g, hg⟩ : ∃ g, g = w4.heap.size := ⟨_, rfl⟩
  have kG : Hid (Rg.Bk g [.int .i64 0, .string ⟨#[120, 121]⟩] 44 (w4.alloc (.cells #[.int .i64 0, .string ⟨#[120, 121]⟩] 44))) := Rg.Bk.new hg
  have hb5 := Rg.hid (Rg.chain hb4.out (Rg.al1 w4 (.cells #[.int .i64 0, .string ⟨#[120, 121]⟩] 44)))
  have nRg : g ≠ R := by have := kR4.out.lt; omega
  have kR5 := Rg.hid (kR4.out.old (.cells #[.int .i64 0, .string ⟨#[120, 121]⟩] 44))
  obtain ⟨w6, st6, k6, o6⟩ := (xE 2 wa aa qa none wc ac qc 0 (w4.alloc (.cells #[.int .i64 0, .string ⟨#[120, 121]⟩] 44))).over (xzDH (w4.alloc (.cells #[.int .i64 0, .string ⟨#[120, 121]⟩] 44))) kR5.out
  have hres := Rg.hid (Rg.row_loadVar (P := Tryz.prog) (t := 29) (CS := #[.int .i64 101, .int .i64 2, .bool true, .int .i64 0, .int .i64 0, .int .i64 0, .int .i64 0, .int .i64 0, .int .i64 0, .slice wa 0 wc, .int .i64 0, .slice aa 0 ac, .string ⟨#[]⟩, .int .i64 2, .slice qa 0 qc, .int .i64 0, .int .i64 0, .slice none 0 0]) k6.out Tryz.underlying29 rfl xinfoDr)
  have hG6 : Hid (Rg.Bk g [.int .i64 0, .string ⟨#[120, 121]⟩] 44 w6) := kG.out.same (o6.out.block g nRg)
  have hfe := Rg.hid (hb5.out.trans (o6.out.bel hRw.out))
  have hgw : Hid (w.heap.size ≤ g) := by show _ ≤ _; have := hb4.out.size; omega
  clear hb4 hb5 kB4 kR4 kR5 kG k6 o6
  go_wp2_with (first | (refine Rg.wpList_load_row rfl (.tmp 2) 29 rfl rfl hl4.out ?_) | (with_reducible refine is_store (.tmp 4) (.tmp 27) 29 ?_; refine list_store (.tmp 4) (.tmp 27) 29 rfl rfl st6.out ?_))
  rw [← hg]
  exact bodyPost_ret (v := .tuple #[.agg #[.int .i64 101, .int .i64 2, .bool true, .int .i64 0, .int .i64 0, .int .i64 0, .int .i64 0, .int .i64 0, .int .i64 0, .slice wa 0 wc, .int .i64 0, .slice aa 0 ac, .string ⟨#[]⟩, .int .i64 2, .slice qa 0 qc, .int .i64 0, .int .i64 0, .slice none 0 0], .string ⟨#[]⟩, .slice (some ⟨g, 0, none⟩) 1 1]) (xresults_row3 rfl rfl rfl rfl hres.out) rfl ⟨g, rfl, hG6, hgw, hfe⟩
theorem dfeed_fd : ∀ w : World, (Instr.field 50 (.agg #[.func (.func 33) #[] #[], .func (.func 34) #[] #[], .func (.func 35) #[] #[], .func (.func 36) #[] #[], .func (.func 37) #[] #[], .func (.func 38) #[] #[]]) 1).run Tryz.prog w = .ok (.func (.func 34) #[] #[]) w := fun _ => by kernel_rfl
theorem dfeed_eg : ∀ args w, (callFunc 34 args).run Tryz.prog w = .ok (.enter 34 args) w := enters_of Tryz.func34 (by kernel_rfl) rfl
set_option maxHeartbeats 2000000 in
set_option maxRecDepth 100000 in
theorem dfeed (wa aa qa ta : Option Addr) (wc ac qc tc : Nat) (w : World) : Calls Tryz.prog 13 #[.agg #[.int .i64 101, .int .i64 2, .bool true, .int .i64 0, .int .i64 0, .int .i64 0, .int .i64 0, .int .i64 0, .int .i64 0, .slice wa 0 wc, .int .i64 0, .slice aa 0 ac, .string ⟨#[]⟩, .int .i64 0, .slice qa 0 qc, .int .i64 0, .int .i64 0, .slice ta 0 tc], .string ⟨#[120, 121]⟩] w fun e w' => ∃ g, e = .returned (.tuple #[.agg #[.int .i64 101, .int .i64 2, .bool true, .int .i64 0, .int .i64 0, .int .i64 0, .int .i64 0, .int .i64 0, .int .i64 0, .slice wa 0 wc, .int .i64 0, .slice aa 0 ac, .string ⟨#[]⟩, .int .i64 2, .slice qa 0 qc, .int .i64 0, .int .i64 0, .slice none 0 0], .string ⟨#[]⟩, .slice (some ⟨g, 0, none⟩) 1 1]) ∧ Hid (Rg.Bk g [.int .i64 0, .string ⟨#[120, 121]⟩] 44 w') ∧ Hid (w.heap.size ≤ g) ∧ Hid (Below w.heap.size w w') := by
  have HP : Hid (∀ W, Calls Tryz.prog 15 #[.int .i64 101] W fun e w' => e = .returned (.agg #[.func (.func 33) #[] #[], .func (.func 34) #[] #[], .func (.func 35) #[] #[], .func (.func 36) #[] #[], .func (.func 37) #[] #[], .func (.func 38) #[] #[]]) ∧ Below W.heap.size W w') := fun W => proto_e W 101 rfl rfl rfl
  have HF : Hid (∀ W, Calls Tryz.prog 34 #[.agg #[.int .i64 101, .int .i64 2, .bool true, .int .i64 0, .int .i64 0, .int .i64 0, .int .i64 0, .int .i64 0, .int .i64 0, .slice wa 0 wc, .int .i64 0, .slice aa 0 ac, .string ⟨#[]⟩, .int .i64 0, .slice qa 0 qc, .int .i64 0, .int .i64 0, .slice ta 0 tc], .string ⟨#[120, 121]⟩] W fun e w' => ∃ g, e = .returned (.tuple #[.agg #[.int .i64 101, .int .i64 2, .bool true, .int .i64 0, .int .i64 0, .int .i64 0, .int .i64 0, .int .i64 0, .int .i64 0, .slice wa 0 wc, .int .i64 0, .slice aa 0 ac, .string ⟨#[]⟩, .int .i64 2, .slice qa 0 qc, .int .i64 0, .int .i64 0, .slice none 0 0], .string ⟨#[]⟩, .slice (some ⟨g, 0, none⟩) 1 1]) ∧ Hid (Rg.Bk g [.int .i64 0, .string ⟨#[120, 121]⟩] 44 w') ∧ Hid (W.heap.size ≤ g) ∧ Hid (Below W.heap.size W w')) := dfeedP wa aa qa ta wc ac qc tc
  have eg := dfeed_eg
  have fd := dfeed_fd
  have kB : Hid (Rg.Bk w.heap.size [.int .i64 101, .int .i64 2, .bool true, .int .i64 0, .int .i64 0, .int .i64 0, .int .i64 0, .int .i64 0, .int .i64 0, .slice wa 0 wc, .int .i64 0, .slice aa 0 ac, .string ⟨#[]⟩, .int .i64 0, .slice qa 0 qc, .int .i64 0, .int .i64 0, .slice ta 0 tc] 29 ((w.alloc (.cells #[.int .i64 101, .int .i64 2, .bool true, .int .i64 0, .int .i64 0, .int .i64 0, .int .i64 0, .int .i64 0, .int .i64 0, .slice wa 0 wc, .int .i64 0, .slice aa 0 ac, .string ⟨#[]⟩, .int .i64 0, .slice qa 0 qc, .int .i64 0, .int .i64 0, .slice ta 0 tc] 29)).alloc (.cells #[.int .i64 0, .int .i64 0, .bool false, .int .i64 0, .int .i64 0, .int .i64 0, .int .i64 0, .int .i64 0, .int .i64 0, .slice none 0 0, .int .i64 0, .slice none 0 0, .string ⟨#[]⟩, .int .i64 0, .slice none 0 0, .int .i64 0, .int .i64 0, .slice none 0 0] 29))) := (Rg.Bk.new rfl).old _
  have kR : Hid (Rg.Bk (w.heap.size + 1) [.int .i64 0, .int .i64 0, .bool false, .int .i64 0, .int .i64 0, .int .i64 0, .int .i64 0, .int .i64 0, .int .i64 0, .slice none 0 0, .int .i64 0, .slice none 0 0, .string ⟨#[]⟩, .int .i64 0, .slice none 0 0, .int .i64 0, .int .i64 0, .slice none 0 0] 29 ((w.alloc (.cells #[.int .i64 101, .int .i64 2, .bool true, .int .i64 0, .int .i64 0, .int .i64 0, .int .i64 0, .int .i64 0, .int .i64 0, .slice wa 0 wc, .int .i64 0, .slice aa 0 ac, .string ⟨#[]⟩, .int .i64 0, .slice qa 0 qc, .int .i64 0, .int .i64 0, .slice ta 0 tc] 29)).alloc (.cells #[.int .i64 0, .int .i64 0, .bool false, .int .i64 0, .int .i64 0, .int .i64 0, .int .i64 0, .int .i64 0, .int .i64 0, .slice none 0 0, .int .i64 0, .slice none 0 0, .string ⟨#[]⟩, .int .i64 0, .slice none 0 0, .int .i64 0, .int .i64 0, .slice none 0 0] 29))) := Rg.Bk.new (by simp)
  have hb := Rg.hid (Rg.al2 w (.cells #[.int .i64 101, .int .i64 2, .bool true, .int .i64 0, .int .i64 0, .int .i64 0, .int .i64 0, .int .i64 0, .int .i64 0, .slice wa 0 wc, .int .i64 0, .slice aa 0 ac, .string ⟨#[]⟩, .int .i64 0, .slice qa 0 qc, .int .i64 0, .int .i64 0, .slice ta 0 tc] 29) (.cells #[.int .i64 0, .int .i64 0, .bool false, .int .i64 0, .int .i64 0, .int .i64 0, .int .i64 0, .int .i64 0, .int .i64 0, .slice none 0 0, .int .i64 0, .slice none 0 0, .string ⟨#[]⟩, .int .i64 0, .slice none 0 0, .int .i64 0, .int .i64 0, .slice none 0 0] 29))
  go_enter Tryz.func13, Tryz.ntmps13
  go_upto_region 1 with fail
  generalize World.alloc _ _ = w1 at *
  obtain ⟨B, hB⟩ : ∃ B, B = w.heap.size := ⟨_, rfl⟩
  obtain ⟨R, hR⟩ : ∃ R, R = w.heap.size + 1 := ⟨_, rfl⟩
  rw [← hR] at kR ⊢
  rw [← hB] at kB ⊢
  have hBw : Hid (w.heap.size ≤ B) := by show _ ≤ _; omega
  have hRw : Hid (w.heap.size ≤ R) := by show _ ≤ _; omega
  have nBR : B ≠ R := by omega
  clear hB hR
  refine wp_region_held_drew (S := fun (w' : World) => Rg.Bk B [.int .i64 101, .int .i64 2, .bool true, .int .i64 0, .int .i64 0, .int .i64 0, .int .i64 0, .int .i64 0, .int .i64 0, .slice wa 0 wc, .int .i64 0, .slice aa 0 ac, .string ⟨#[]⟩, .int .i64 0, .slice qa 0 qc, .int .i64 0, .int .i64 0, .slice ta 0 tc] 29 w') (by kernel_rfl) ?_ (fun hH0 => ?_)
  · exact kB.out
  refine wpAnyH_take (i := 0) (oi := { dst := some 7, op := _, type := _, pos := _, after := _, guard := _ }) (v := ?_) rfl (by kernel_rfl) (by kernel_rfl) (by kernel_rfl) (fun _ _ _ h => h) (Or.inl ⟨by rfl, ?_⟩) (by assumption) ?_
  rotate_left
  · (intro w hSw; clear hSw; go_simp); (try with_reducible rfl)
  simp only [Act.put, List.setIfInBounds_toArray, List.set_cons_zero, List.set_cons_succ]
  refine wpAnyH_take (i := 1) (oi := { dst := some 8, op := _, type := _, pos := _, after := _, guard := _ }) (v := .int .i64 101) rfl (by kernel_rfl) (by kernel_rfl) (by kernel_rfl) (fun _ _ _ h => h) (Or.inl ⟨by rfl, ?_⟩) (by assumption) ?_
  · intro w hSw; have c1 := hSw.cell 0; clear hSw; go_simp; (try with_reducible rfl)
  simp only [Act.put, List.setIfInBounds_toArray, List.set_cons_zero, List.set_cons_succ]
  refine wpAnyH_take (i := 4) (oi := { dst := some 11, op := _, type := _, pos := _, after := _, guard := _ }) (v := .agg #[.int .i64 101, .int .i64 2, .bool true, .int .i64 0, .int .i64 0, .int .i64 0, .int .i64 0, .int .i64 0, .int .i64 0, .slice wa 0 wc, .int .i64 0, .slice aa 0 ac, .string ⟨#[]⟩, .int .i64 0, .slice qa 0 qc, .int .i64 0, .int .i64 0, .slice ta 0 tc]) rfl (by kernel_rfl) (by kernel_rfl) (by kernel_rfl) (fun _ _ _ h => h) (Or.inl ⟨by rfl, fun w hSw => iexec_load_row _ _ rfl rfl (ldE wa aa qa ta wc ac qc tc 0 hSw)⟩) (by assumption) ?_
  simp only [Act.put, List.setIfInBounds_toArray, List.set_cons_zero, List.set_cons_succ]
  refine wpAnyH_take (i := 5) (oi := { dst := some 12, op := _, type := _, pos := _, after := _, guard := _ }) (v := ?_) rfl (by kernel_rfl) (by kernel_rfl) (by kernel_rfl) (fun _ _ _ h => h) (Or.inl ⟨by rfl, ?_⟩) (by assumption) ?_
  rotate_left
  · (intro w hSw; clear hSw; go_simp); (try with_reducible rfl)
  simp only [Act.put, List.setIfInBounds_toArray, List.set_cons_zero, List.set_cons_succ]
  refine wpAnyH_ready (rs := [2]) (by kernel_rfl) (by simp) ?_
  refine AllReadyH.cons (o := { dst := some 9, op := _, type := _, pos := _, after := _, guard := _ }) rfl (fun K hK => ?_) AllReadyH.nil
  go_simp; go_at_call 15; refine (HP.out _).mono ?_; rintro e w3 ⟨rfl, b3⟩; have kB3 := Rg.hid (kB.out.drew.below b3 kB.out.lt); have kR3 := Rg.hid (kR.out.drew.below b3 kR.out.lt); have hb3 := Rg.hid (Rg.chain hb.out.drew b3)
  refine hK.out _ _ ?_ (fun hH1 => ?_)
  · exact kB3.out
  clear hK K hH0
  clear kB kR hb b3
  refine wpAnyH_take (i := 3) (oi := { dst := some 10, op := _, type := _, pos := _, after := _, guard := _ }) (v := ?_) rfl (by kernel_rfl) (by kernel_rfl) (by kernel_rfl) (fun _ _ _ h => h) (Or.inl ⟨by rfl, ?_⟩) (by assumption) ?_
  rotate_left
  · (intro w hSw; clear hSw; go_simp); (try with_reducible rfl)
  simp only [Act.put, List.setIfInBounds_toArray, List.set_cons_zero, List.set_cons_succ]
  refine wpAnyH_ready (rs := [6]) (by kernel_rfl) (by simp) ?_
  refine AllReadyH.cons (o := { dst := some 13, op := _, type := _, pos := _, after := _, guard := _ }) rfl (fun K hK => ?_) AllReadyH.nil
  go_simp; go_at_fn 34; refine (HF.out _).mono ?_; rintro e w4 ⟨g, rfl, kG4, hg4, b4⟩; have kB4 := Rg.hid (kB3.out.below b4.out kB3.out.lt); have kR4 := Rg.hid (kR3.out.below b4.out kR3.out.lt); have hb4 := Rg.hid (Rg.chain hb3.out b4.out); have nRg : g ≠ R := (by have h1 := kR3.out.lt; have h2 := hg4.out; omega)
  refine hK.out _ _ ?_ (fun hH2 => ?_)
  · exact kB4.out
  clear hK K hH1
  have hgw : Hid (w.heap.size ≤ g) := by show _ ≤ _; have := hb3.out.size; have := hg4.out; omega
  clear kB3 kR3 hb3 b4 hg4
  refine wpAnyH_take (i := 7) (oi := { dst := some 14, op := _, type := _, pos := _, after := _, guard := _ }) (v := ?_) rfl (by kernel_rfl) (by kernel_rfl) (by kernel_rfl) (fun _ _ _ h => h) (Or.inl ⟨by rfl, ?_⟩) (by assumption) ?_
  rotate_left
  · (intro w hSw; clear hSw; go_simp); (try with_reducible rfl)
  simp only [Act.put, List.setIfInBounds_toArray, List.set_cons_zero, List.set_cons_succ]
  refine wpAnyH_take (i := 8) (oi := { dst := some 15, op := _, type := _, pos := _, after := _, guard := _ }) (v := ?_) rfl (by kernel_rfl) (by kernel_rfl) (by kernel_rfl) (fun _ _ _ h => h) (Or.inl ⟨by rfl, ?_⟩) (by assumption) ?_
  rotate_left
  · (intro w hSw; clear hSw; go_simp); (try with_reducible rfl)
  simp only [Act.put, List.setIfInBounds_toArray, List.set_cons_zero, List.set_cons_succ]
  refine wpAnyH_take (i := 9) (oi := { dst := some 16, op := _, type := _, pos := _, after := _, guard := _ }) (v := ?_) rfl (by kernel_rfl) (by kernel_rfl) (by kernel_rfl) (fun _ _ _ h => h) (Or.inl ⟨by rfl, ?_⟩) (by assumption) ?_
  rotate_left
  · (intro w hSw; clear hSw; go_simp); (try with_reducible rfl)
  simp only [Act.put, List.setIfInBounds_toArray, List.set_cons_zero, List.set_cons_succ]
  obtain ⟨w5, st5, k5, o5⟩ := (xE 2 wa aa qa none wc ac qc 0 w4).over (xzDH w4) kR4.out
  have hres := Rg.hid (Rg.row_loadVar (P := Tryz.prog) (t := 29) (CS := #[.int .i64 101, .int .i64 2, .bool true, .int .i64 0, .int .i64 0, .int .i64 0, .int .i64 0, .int .i64 0, .int .i64 0, .slice wa 0 wc, .int .i64 0, .slice aa 0 ac, .string ⟨#[]⟩, .int .i64 2, .slice qa 0 qc, .int .i64 0, .int .i64 0, .slice none 0 0]) k5.out Tryz.underlying29 rfl xinfoDr)
  have hG5 : Hid (Rg.Bk g [.int .i64 0, .string ⟨#[120, 121]⟩] 44 w5) := kG4.out.same (o5.out.block g nRg)
  have hfe := Rg.hid (hb4.out.trans (o5.out.bel hRw.out))
  refine wpAnyH_ready (rs := [10]) (by kernel_rfl) (by simp) ?_
  refine AllReadyH.cons (o := { dst := none, op := _, type := _, pos := _, after := _, guard := _ }) rfl (fun K hK => ?_) AllReadyH.nil
  refine istep_store_row (by rfl) (.tmp 4) (.tmp 14) 29 (by rfl) (by rfl) (by rfl) st5.out ?_
  refine hK.out _ _ ?_ (fun hH3 => ?_)
  · exact kB4.out.same (o5.out.block _ nBR)
  clear hK K hH2
  simp only [Act.put]
  refine wpAnyH_take (i := 11) (oi := { dst := some 5, op := _, type := _, pos := _, after := _, guard := _ }) (v := ?_) rfl (by kernel_rfl) (by kernel_rfl) (by kernel_rfl) (fun _ _ _ h => h) (Or.inl ⟨by rfl, ?_⟩) (by assumption) ?_
  rotate_left
  · (intro w hSw; clear hSw; go_simp); (try with_reducible rfl)
  simp only [Act.put, List.setIfInBounds_toArray, List.set_cons_zero, List.set_cons_succ]
  refine wpAnyH_take (i := 12) (oi := { dst := some 6, op := _, type := _, pos := _, after := _, guard := _ }) (v := ?_) rfl (by kernel_rfl) (by kernel_rfl) (by kernel_rfl) (fun _ _ _ h => h) (Or.inl ⟨by rfl, ?_⟩) (by assumption) ?_
  rotate_left
  · (intro w hSw; clear hSw; go_simp); (try with_reducible rfl)
  simp only [Act.put, List.setIfInBounds_toArray, List.set_cons_zero, List.set_cons_succ]
  refine wpAnyH_done (by kernel_rfl) ?_ _
  go_wp2_with fail
  exact bodyPost_ret (v := .tuple #[.agg #[.int .i64 101, .int .i64 2, .bool true, .int .i64 0, .int .i64 0, .int .i64 0, .int .i64 0, .int .i64 0, .int .i64 0, .slice wa 0 wc, .int .i64 0, .slice aa 0 ac, .string ⟨#[]⟩, .int .i64 2, .slice qa 0 qc, .int .i64 0, .int .i64 0, .slice none 0 0], .string ⟨#[]⟩, .slice (some ⟨g, 0, none⟩) 1 1]) (xresults_row3 rfl rfl rfl rfl hres.out) rfl ⟨g, rfl, hG5, hgw, hfe⟩
end Go.Proofs.YtomldoijcclhhaaGreat
