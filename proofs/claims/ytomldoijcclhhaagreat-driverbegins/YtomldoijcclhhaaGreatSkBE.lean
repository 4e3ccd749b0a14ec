/-
  Layer 17: Begin, of the program and of the document.
-/
import Derived.Test.YtomldoijcclhhaaGreatSkAD
import Derived.Test.YtomldoijcclhhaaGreatSkAQ
import Derived.Test.YtomldoijcclhhaaGreatSkBD
namespace Go.Proofs.YtomldoijcclhhaaGreat
open Go.RowKit
/-- a drive without lists -/
def bareD (d : Gp.Dr) : Prop := d.win.l = [] ∧ d.ahead = [] ∧ d.queue = [] ∧ d.took = []
theorem dbegin_G_fd : ∀ w : World, (Instr.field 50 (.agg #[.func (.func 21) #[] #[], .func (.func 22) #[] #[], .func (.func 23) #[] #[], .func (.func 24) #[] #[], .func (.func 25) #[] #[], .func (.func 26) #[] #[]]) 0).run Tryz.prog w = .ok (.func (.func 21) #[] #[]) w := fun _ => by kernel_rfl
theorem dbegin_G_eg : ∀ args w, (callFunc 21 args).run Tryz.prog w = .ok (.enter 21 args) w := enters_of Tryz.func21 (by kernel_rfl) rfl
set_option maxHeartbeats 2000000 in
set_option maxRecDepth 100000 in
theorem dbegin_G (ca : Bool) (z ro : Int) (d : Gp.Dr) (s : ByteArray) (E : Int) (w : World) (hd0 : Hid (bareD d)) (HB : Hid (∀ W, Calls Tryz.prog 21 #[.int .i64 71, .bool ca, .int .i64 z, .int .i64 ro] W fun e w' => VPost W d s E e w')) :
    Calls Tryz.prog 5 #[.int .i64 71, .bool ca, .int .i64 z, .int .i64 ro] w fun e w' => VPost w d s E e w' := by
  have eg := dbegin_G_eg
  have fd := dbegin_G_fd
  have kR0 : Hid (Rg.Bk w.heap.size [.int .i64 0, .int .i64 0, .bool false, .int .i64 0, .int .i64 0, .int .i64 0, .int .i64 0, .int .i64 0, .int .i64 0, .slice none 0 0, .int .i64 0, .slice none 0 0, .string ⟨#[]⟩, .int .i64 0, .slice none 0 0, .int .i64 0, .int .i64 0, .slice none 0 0] 29 (w.alloc (.cells #[.int .i64 0, .int .i64 0, .bool false, .int .i64 0, .int .i64 0, .int .i64 0, .int .i64 0, .int .i64 0, .int .i64 0, .slice none 0 0, .int .i64 0, .slice none 0 0, .string ⟨#[]⟩, .int .i64 0, .slice none 0 0, .int .i64 0, .int .i64 0, .slice none 0 0] 29))) := Rg.Bk.new rfl
  have hb0 := Rg.hid (Rg.al1 w (.cells #[.int .i64 0, .int .i64 0, .bool false, .int .i64 0, .int .i64 0, .int .i64 0, .int .i64 0, .int .i64 0, .int .i64 0, .slice none 0 0, .int .i64 0, .slice none 0 0, .string ⟨#[]⟩, .int .i64 0, .slice none 0 0, .int .i64 0, .int .i64 0, .slice none 0 0] 29))
  obtain ⟨R, hR⟩ : ∃ R, R = w.heap.size := ⟨_, rfl⟩
  go_enter Tryz.func5, Tryz.ntmps5
  go_upto_region 1 with fail
  generalize World.alloc _ _ = w1 at *
  rw [← hR] at kR0 ⊢
  have hRw : Hid (w.heap.size ≤ R) := by show _ ≤ _; omega
  clear hR
  go_wp2_with (first | (go_at_call 15; refine (proto_G _).mono ?_; rintro e w2 ⟨rfl, b2⟩) | (go_at_fn 21; refine (HB.out _).mono ?_; rintro e w3 ⟨CS, rfl, hd, b3⟩; obtain ⟨w4, st4, k4, o4⟩ := hd.out.over (xzDH w3) ((kR0.out.below b2 kR0.out.lt).below b3.out (Nat.lt_of_lt_of_le kR0.out.lt b2.size))) | (with_reducible refine is_store (.tmp 8) (.tmp 19) 29 ?_; refine list_store (.tmp 8) (.tmp 19) 29 rfl rfl st4.out ?_))
  exact bodyPost_ret (v := .tuple #[.agg CS, .string s, .int .i64 E]) (xresults_row3 rfl rfl rfl rfl (hd.out.load k4.out)) rfl ⟨CS, rfl, hd.out.bare hd0.out.1 hd0.out.2.1 hd0.out.2.2.1 hd0.out.2.2.2, (Rg.chain (Rg.chain hb0.out b2) b3.out).trans (o4.out.bel hRw.out)⟩
theorem dbegin_g_fd : ∀ w : World, (Instr.field 50 (.agg #[.func (.func 21) #[] #[], .func (.func 22) #[] #[], .func (.func 23) #[] #[], .func (.func 24) #[] #[], .func (.func 25) #[] #[], .func (.func 26) #[] #[]]) 0).run Tryz.prog w = .ok (.func (.func 21) #[] #[]) w := fun _ => by kernel_rfl
theorem dbegin_g_eg : ∀ args w, (callFunc 21 args).run Tryz.prog w = .ok (.enter 21 args) w := enters_of Tryz.func21 (by kernel_rfl) rfl
set_option maxHeartbeats 2000000 in
set_option maxRecDepth 100000 in
theorem dbegin_g (ca : Bool) (z ro : Int) (d : Gp.Dr) (s : ByteArray) (E : Int) (w : World) (hd0 : Hid (bareD d)) (HB : Hid (∀ W, Calls Tryz.prog 21 #[.int .i64 103, .bool ca, .int .i64 z, .int .i64 ro] W fun e w' => VPost W d s E e w')) :
    Calls Tryz.prog 5 #[.int .i64 103, .bool ca, .int .i64 z, .int .i64 ro] w fun e w' => VPost w d s E e w' := by
  have eg := dbegin_g_eg
  have fd := dbegin_g_fd
  have kR0 : Hid (Rg.Bk w.heap.size [.int .i64 0, .int .i64 0, .bool false, .int .i64 0, .int .i64 0, .int .i64 0, .int .i64 0, .int .i64 0, .int .i64 0, .slice none 0 0, .int .i64 0, .slice none 0 0, .string ⟨#[]⟩, .int .i64 0, .slice none 0 0, .int .i64 0, .int .i64 0, .slice none 0 0] 29 (w.alloc (.cells #[.int .i64 0, .int .i64 0, .bool false, .int .i64 0, .int .i64 0, .int .i64 0, .int .i64 0, .int .i64 0, .int .i64 0, .slice none 0 0, .int .i64 0, .slice none 0 0, .string ⟨#[]⟩, .int .i64 0, .slice none 0 0, .int .i64 0, .int .i64 0, .slice none 0 0] 29))) := Rg.Bk.new rfl
  have hb0 := Rg.hid (Rg.al1 w (.cells #[.int .i64 0, .int .i64 0, .bool false, .int .i64 0, .int .i64 0, .int .i64 0, .int .i64 0, .int .i64 0, .int .i64 0, .slice none 0 0, .int .i64 0, .slice none 0 0, .string ⟨#[]⟩, .int .i64 0, .slice none 0 0, .int .i64 0, .int .i64 0, .slice none 0 0] 29))
  obtain ⟨R, hR⟩ : ∃ R, R = w.heap.size := ⟨_, rfl⟩
  go_enter Tryz.func5, Tryz.ntmps5
  go_upto_region 1 with fail
  generalize World.alloc _ _ = w1 at *
  rw [← hR] at kR0 ⊢
  have hRw : Hid (w.heap.size ≤ R) := by show _ ≤ _; omega
  clear hR
  go_wp2_with (first | (go_at_call 15; refine (proto_g _).mono ?_; rintro e w2 ⟨rfl, b2⟩) | (go_at_fn 21; refine (HB.out _).mono ?_; rintro e w3 ⟨CS, rfl, hd, b3⟩; obtain ⟨w4, st4, k4, o4⟩ := hd.out.over (xzDH w3) ((kR0.out.below b2 kR0.out.lt).below b3.out (Nat.lt_of_lt_of_le kR0.out.lt b2.size))) | (with_reducible refine is_store (.tmp 8) (.tmp 19) 29 ?_; refine list_store (.tmp 8) (.tmp 19) 29 rfl rfl st4.out ?_))
  exact bodyPost_ret (v := .tuple #[.agg CS, .string s, .int .i64 E]) (xresults_row3 rfl rfl rfl rfl (hd.out.load k4.out)) rfl ⟨CS, rfl, hd.out.bare hd0.out.1 hd0.out.2.1 hd0.out.2.2.1 hd0.out.2.2.2, (Rg.chain (Rg.chain hb0.out b2) b3.out).trans (o4.out.bel hRw.out)⟩
theorem dbegin_i_fd : ∀ w : World, (Instr.field 50 (.agg #[.func (.func 27) #[] #[], .func (.func 28) #[] #[], .func (.func 29) #[] #[], .func (.func 30) #[] #[], .func (.func 31) #[] #[], .func (.func 32) #[] #[]]) 0).run Tryz.prog w = .ok (.func (.func 27) #[] #[]) w := fun _ => by kernel_rfl
theorem dbegin_i_eg : ∀ args w, (callFunc 27 args).run Tryz.prog w = .ok (.enter 27 args) w := enters_of Tryz.func27 (by kernel_rfl) rfl
set_option maxHeartbeats 2000000 in
set_option maxRecDepth 100000 in
theorem dbegin_i (ca : Bool) (z ro : Int) (d : Gp.Dr) (s : ByteArray) (E : Int) (w : World) (hd0 : Hid (bareD d)) (HB : Hid (∀ W, Calls Tryz.prog 27 #[.int .i64 105, .bool ca, .int .i64 z, .int .i64 ro] W fun e w' => VPost W d s E e w')) :
    Calls Tryz.prog 5 #[.int .i64 105, .bool ca, .int .i64 z, .int .i64 ro] w fun e w' => VPost w d s E e w' := by
  have eg := dbegin_i_eg
  have fd := dbegin_i_fd
  have kR0 : Hid (Rg.Bk w.heap.size [.int .i64 0, .int .i64 0, .bool false, .int .i64 0, .int .i64 0, .int .i64 0, .int .i64 0, .int .i64 0, .int .i64 0, .slice none 0 0, .int .i64 0, .slice none 0 0, .string ⟨#[]⟩, .int .i64 0, .slice none 0 0, .int .i64 0, .int .i64 0, .slice none 0 0] 29 (w.alloc (.cells #[.int .i64 0, .int .i64 0, .bool false, .int .i64 0, .int .i64 0, .int .i64 0, .int .i64 0, .int .i64 0, .int .i64 0, .slice none 0 0, .int .i64 0, .slice none 0 0, .string ⟨#[]⟩, .int .i64 0, .slice none 0 0, .int .i64 0, .int .i64 0, .slice none 0 0] 29))) := Rg.Bk.new rfl
  have hb0 := Rg.hid (Rg.al1 w (.cells #[.int .i64 0, .int .i64 0, .bool false, .int .i64 0, .int .i64 0, .int .i64 0, .int .i64 0, .int .i64 0, .int .i64 0, .slice none 0 0, .int .i64 0, .slice none 0 0, .string ⟨#[]⟩, .int .i64 0, .slice none 0 0, .int .i64 0, .int .i64 0, .slice none 0 0] 29))
  obtain ⟨R, hR⟩ : ∃ R, R = w.heap.size := ⟨_, rfl⟩
  go_enter Tryz.func5, Tryz.ntmps5
  go_upto_region 1 with fail
  generalize World.alloc _ _ = w1 at *
  rw [← hR] at kR0 ⊢
  have hRw : Hid (w.heap.size ≤ R) := by show _ ≤ _; omega
  clear hR
  go_wp2_with (first | (go_at_call 15; refine (proto_i _).mono ?_; rintro e w2 ⟨rfl, b2⟩) | (go_at_fn 27; refine (HB.out _).mono ?_; rintro e w3 ⟨CS, rfl, hd, b3⟩; obtain ⟨w4, st4, k4, o4⟩ := hd.out.over (xzDH w3) ((kR0.out.below b2 kR0.out.lt).below b3.out (Nat.lt_of_lt_of_le kR0.out.lt b2.size))) | (with_reducible refine is_store (.tmp 8) (.tmp 19) 29 ?_; refine list_store (.tmp 8) (.tmp 19) 29 rfl rfl st4.out ?_))
  exact bodyPost_ret (v := .tuple #[.agg CS, .string s, .int .i64 E]) (xresults_row3 rfl rfl rfl rfl (hd.out.load k4.out)) rfl ⟨CS, rfl, hd.out.bare hd0.out.1 hd0.out.2.1 hd0.out.2.2.1 hd0.out.2.2.2, (Rg.chain (Rg.chain hb0.out b2) b3.out).trans (o4.out.bel hRw.out)⟩
theorem dbegin_e_fd : ∀ w : World, (Instr.field 50 (.agg #[.func (.func 33) #[] #[], .func (.func 34) #[] #[], .func (.func 35) #[] #[], .func (.func 36) #[] #[], .func (.func 37) #[] #[], .func (.func 38) #[] #[]]) 0).run Tryz.prog w = .ok (.func (.func 33) #[] #[]) w := fun _ => by kernel_rfl
theorem dbegin_e_eg : ∀ args w, (callFunc 33 args).run Tryz.prog w = .ok (.enter 33 args) w := enters_of Tryz.func33 (by kernel_rfl) rfl
set_option maxHeartbeats 2000000 in
set_option maxRecDepth 100000 in
theorem dbegin_e (lt : Int) (d1 : (lt == 71) = false) (d2 : (lt == 103) = false) (d3 : (lt == 105) = false) (ca : Bool) (z ro : Int) (d : Gp.Dr) (s : ByteArray) (E : Int) (w : World) (hd0 : Hid (bareD d)) (HB : Hid (∀ W, Calls Tryz.prog 33 #[.int .i64 lt, .bool ca, .int .i64 z, .int .i64 ro] W fun e w' => VPost W d s E e w')) :
    Calls Tryz.prog 5 #[.int .i64 lt, .bool ca, .int .i64 z, .int .i64 ro] w fun e w' => VPost w d s E e w' := by
  have eg := dbegin_e_eg
  have fd := dbegin_e_fd
  have kR0 : Hid (Rg.Bk w.heap.size [.int .i64 0, .int .i64 0, .bool false, .int .i64 0, .int .i64 0, .int .i64 0, .int .i64 0, .int .i64 0, .int .i64 0, .slice none 0 0, .int .i64 0, .slice none 0 0, .string ⟨#[]⟩, .int .i64 0, .slice none 0 0, .int .i64 0, .int .i64 0, .slice none 0 0] 29 (w.alloc (.cells #[.int .i64 0, .int .i64 0, .bool false, .int .i64 0, .int .i64 0, .int .i64 0, .int .i64 0, .int .i64 0, .int .i64 0, .slice none 0 0, .int .i64 0, .slice none 0 0, .string ⟨#[]⟩, .int .i64 0, .slice none 0 0, .int .i64 0, .int .i64 0, .slice none 0 0] 29))) := Rg.Bk.new rfl
  have hb0 := Rg.hid (Rg.al1 w (.cells #[.int .i64 0, .int .i64 0, .bool false, .int .i64 0, .int .i64 0, .int .i64 0, .int .i64 0, .int .i64 0, .int .i64 0, .slice none 0 0, .int .i64 0, .slice none 0 0, .string ⟨#[]⟩, .int .i64 0, .slice none 0 0, .int .i64 0, .int .i64 0, .slice none 0 0] 29))
  obtain ⟨R, hR⟩ : ∃ R, R = w.heap.size := ⟨_, rfl⟩
  go_enter Tryz.func5, Tryz.ntmps5
  go_upto_region 1 with fail
  generalize World.alloc _ _ = w1 at *
  rw [← hR] at kR0 ⊢
  have hRw : Hid (w.heap.size ≤ R) := by show _ ≤ _; omega
  clear hR
  go_wp2_with (first | (go_at_call 15; refine (proto_e _ lt d1 d2 d3).mono ?_; rintro e w2 ⟨rfl, b2⟩) | (go_at_fn 33; refine (HB.out _).mono ?_; rintro e w3 ⟨CS, rfl, hd, b3⟩; obtain ⟨w4, st4, k4, o4⟩ := hd.out.over (xzDH w3) ((kR0.out.below b2 kR0.out.lt).below b3.out (Nat.lt_of_lt_of_le kR0.out.lt b2.size))) | (with_reducible refine is_store (.tmp 8) (.tmp 19) 29 ?_; refine list_store (.tmp 8) (.tmp 19) 29 rfl rfl st4.out ?_))
  exact bodyPost_ret (v := .tuple #[.agg CS, .string s, .int .i64 E]) (xresults_row3 rfl rfl rfl rfl (hd.out.load k4.out)) rfl ⟨CS, rfl, hd.out.bare hd0.out.1 hd0.out.2.1 hd0.out.2.2.1 hd0.out.2.2.2, (Rg.chain (Rg.chain hb0.out b2) b3.out).trans (o4.out.bel hRw.out)⟩
set_option maxHeartbeats 2000000 in
set_option maxRecDepth 100000 in
theorem dbeginI_any (lt : Int) (ca : Bool) (z ro : Int) (d : Gp.Dr) (s : ByteArray) (E : Int) (w : World) (hd0 : Hid (bareD d)) (HB : Hid (∀ W, Calls Tryz.prog 61 #[.bool ca, .int .i64 z, .int .i64 ro] W fun e w' => VPost W d s E e w')) :
    Calls Tryz.prog 27 #[.int .i64 lt, .bool ca, .int .i64 z, .int .i64 ro] w fun e w' => VPost w d s E e w' := by
  have kR0 : Hid (Rg.Bk w.heap.size [.int .i64 0, .int .i64 0, .bool false, .int .i64 0, .int .i64 0, .int .i64 0, .int .i64 0, .int .i64 0, .int .i64 0, .slice none 0 0, .int .i64 0, .slice none 0 0, .string ⟨#[]⟩, .int .i64 0, .slice none 0 0, .int .i64 0, .int .i64 0, .slice none 0 0] 29 (w.alloc (.cells #[.int .i64 0, .int .i64 0, .bool false, .int .i64 0, .int .i64 0, .int .i64 0, .int .i64 0, .int .i64 0, .int .i64 0, .slice none 0 0, .int .i64 0, .slice none 0 0, .string ⟨#[]⟩, .int .i64 0, .slice none 0 0, .int .i64 0, .int .i64 0, .slice none 0 0] 29))) := Rg.Bk.new rfl
  have hb0 := Rg.hid (Rg.al1 w (.cells #[.int .i64 0, .int .i64 0, .bool false, .int .i64 0, .int .i64 0, .int .i64 0, .int .i64 0, .int .i64 0, .int .i64 0, .slice none 0 0, .int .i64 0, .slice none 0 0, .string ⟨#[]⟩, .int .i64 0, .slice none 0 0, .int .i64 0, .int .i64 0, .slice none 0 0] 29))
  obtain ⟨R, hR⟩ : ∃ R, R = w.heap.size := ⟨_, rfl⟩
  go_enter Tryz.func27, Tryz.ntmps27
  go_upto_region 1 with fail
  generalize World.alloc _ _ = w1 at *
  rw [← hR] at kR0 ⊢
  have hRw : Hid (w.heap.size ≤ R) := by show _ ≤ _; omega
  clear hR
  go_wp2_with (first | (go_at_call 61; refine (HB.out _).mono ?_; rintro e w3 ⟨CS, rfl, hd, b3⟩; obtain ⟨w4, st4, k4, o4⟩ := hd.out.over (xzDH w3) (kR0.out.below b3.out kR0.out.lt)) | (with_reducible refine is_store (.tmp 8) (.tmp 15) 29 ?_; refine list_store (.tmp 8) (.tmp 15) 29 rfl rfl st4.out ?_))
  exact bodyPost_ret (v := .tuple #[.agg CS, .string s, .int .i64 E]) (xresults_row3 rfl rfl rfl rfl (hd.out.load k4.out)) rfl ⟨CS, rfl, hd.out.bare hd0.out.1 hd0.out.2.1 hd0.out.2.2.1 hd0.out.2.2.2, (Rg.chain hb0.out b3.out).trans (o4.out.bel hRw.out)⟩
set_option maxHeartbeats 2000000 in
set_option maxRecDepth 100000 in
theorem dref_G (ca : Bool) (z ro : Int) (d : Gp.Dr) (s : ByteArray) (E : Int) (w : World) (hd0 : Hid (bareD d)) (HB : Hid (∀ W, Calls Tryz.prog 16 #[.int .i64 71, .bool ca, .int .i64 z, .int .i64 ro] W fun e w' => VPost W d s E e w')) :
    Calls Tryz.prog 6 #[.int .i64 71, .bool ca, .int .i64 z, .int .i64 ro] w fun e w' => VPost w d s E e w' := by
  have kR0 : Hid (Rg.Bk w.heap.size [.int .i64 0, .int .i64 0, .bool false, .int .i64 0, .int .i64 0, .int .i64 0, .int .i64 0, .int .i64 0, .int .i64 0, .slice none 0 0, .int .i64 0, .slice none 0 0, .string ⟨#[]⟩, .int .i64 0, .slice none 0 0, .int .i64 0, .int .i64 0, .slice none 0 0] 29 (w.alloc (.cells #[.int .i64 0, .int .i64 0, .bool false, .int .i64 0, .int .i64 0, .int .i64 0, .int .i64 0, .int .i64 0, .int .i64 0, .slice none 0 0, .int .i64 0, .slice none 0 0, .string ⟨#[]⟩, .int .i64 0, .slice none 0 0, .int .i64 0, .int .i64 0, .slice none 0 0] 29))) := Rg.Bk.new rfl
  have hb0 := Rg.hid (Rg.al1 w (.cells #[.int .i64 0, .int .i64 0, .bool false, .int .i64 0, .int .i64 0, .int .i64 0, .int .i64 0, .int .i64 0, .int .i64 0, .slice none 0 0, .int .i64 0, .slice none 0 0, .string ⟨#[]⟩, .int .i64 0, .slice none 0 0, .int .i64 0, .int .i64 0, .slice none 0 0] 29))
  obtain ⟨R, hR⟩ : ∃ R, R = w.heap.size := ⟨_, rfl⟩
  go_enter Tryz.func6, Tryz.ntmps6
  go_upto_region 1 with fail
  generalize World.alloc _ _ = w1 at *
  rw [← hR] at kR0 ⊢
  have hRw : Hid (w.heap.size ≤ R) := by show _ ≤ _; omega
  clear hR
  go_wp2_with (first | (go_at_call 16; refine (HB.out _).mono ?_; rintro e w3 ⟨CS, rfl, hd, b3⟩; obtain ⟨w4, st4, k4, o4⟩ := hd.out.over (xzDH w3) (kR0.out.below b3.out kR0.out.lt)) | (with_reducible refine is_store (.tmp 8) (.tmp 20) 29 ?_; refine list_store (.tmp 8) (.tmp 20) 29 rfl rfl st4.out ?_))
  exact bodyPost_ret (v := .tuple #[.agg CS, .string s, .int .i64 E]) (xresults_row3 rfl rfl rfl rfl (hd.out.load k4.out)) rfl ⟨CS, rfl, hd.out.bare hd0.out.1 hd0.out.2.1 hd0.out.2.2.1 hd0.out.2.2.2, (Rg.chain hb0.out b3.out).trans (o4.out.bel hRw.out)⟩
set_option maxHeartbeats 2000000 in
set_option maxRecDepth 100000 in
theorem dref_g (ca : Bool) (z ro : Int) (d : Gp.Dr) (s : ByteArray) (E : Int) (w : World) (hd0 : Hid (bareD d)) (HB : Hid (∀ W, Calls Tryz.prog 16 #[.int .i64 103, .bool ca, .int .i64 z, .int .i64 ro] W fun e w' => VPost W d s E e w')) :
    Calls Tryz.prog 6 #[.int .i64 103, .bool ca, .int .i64 z, .int .i64 ro] w fun e w' => VPost w d s E e w' := by
  have kR0 : Hid (Rg.Bk w.heap.size [.int .i64 0, .int .i64 0, .bool false, .int .i64 0, .int .i64 0, .int .i64 0, .int .i64 0, .int .i64 0, .int .i64 0, .slice none 0 0, .int .i64 0, .slice none 0 0, .string ⟨#[]⟩, .int .i64 0, .slice none 0 0, .int .i64 0, .int .i64 0, .slice none 0 0] 29 (w.alloc (.cells #[.int .i64 0, .int .i64 0, .bool false, .int .i64 0, .int .i64 0, .int .i64 0, .int .i64 0, .int .i64 0, .int .i64 0, .slice none 0 0, .int .i64 0, .slice none 0 0, .string ⟨#[]⟩, .int .i64 0, .slice none 0 0, .int .i64 0, .int .i64 0, .slice none 0 0] 29))) := Rg.Bk.new rfl
  have hb0 := Rg.hid (Rg.al1 w (.cells #[.int .i64 0, .int .i64 0, .bool false, .int .i64 0, .int .i64 0, .int .i64 0, .int .i64 0, .int .i64 0, .int .i64 0, .slice none 0 0, .int .i64 0, .slice none 0 0, .string ⟨#[]⟩, .int .i64 0, .slice none 0 0, .int .i64 0, .int .i64 0, .slice none 0 0] 29))
  obtain ⟨R, hR⟩ : ∃ R, R = w.heap.size := ⟨_, rfl⟩
  go_enter Tryz.func6, Tryz.ntmps6
  go_upto_region 1 with fail
  generalize World.alloc _ _ = w1 at *
  rw [← hR] at kR0 ⊢
  have hRw : Hid (w.heap.size ≤ R) := by show _ ≤ _; omega
  clear hR
  go_wp2_with (first | (go_at_call 16; refine (HB.out _).mono ?_; rintro e w3 ⟨CS, rfl, hd, b3⟩; obtain ⟨w4, st4, k4, o4⟩ := hd.out.over (xzDH w3) (kR0.out.below b3.out kR0.out.lt)) | (with_reducible refine is_store (.tmp 8) (.tmp 20) 29 ?_; refine list_store (.tmp 8) (.tmp 20) 29 rfl rfl st4.out ?_))
  exact bodyPost_ret (v := .tuple #[.agg CS, .string s, .int .i64 E]) (xresults_row3 rfl rfl rfl rfl (hd.out.load k4.out)) rfl ⟨CS, rfl, hd.out.bare hd0.out.1 hd0.out.2.1 hd0.out.2.2.1 hd0.out.2.2.2, (Rg.chain hb0.out b3.out).trans (o4.out.bel hRw.out)⟩
set_option maxHeartbeats 2000000 in
set_option maxRecDepth 100000 in
theorem dref_i (ca : Bool) (z ro : Int) (d : Gp.Dr) (s : ByteArray) (E : Int) (w : World) (hd0 : Hid (bareD d)) (HB : Hid (∀ W, Calls Tryz.prog 17 #[.bool ca, .int .i64 z, .int .i64 ro] W fun e w' => VPost W d s E e w')) :
    Calls Tryz.prog 6 #[.int .i64 105, .bool ca, .int .i64 z, .int .i64 ro] w fun e w' => VPost w d s E e w' := by
  have kR0 : Hid (Rg.Bk w.heap.size [.int .i64 0, .int .i64 0, .bool false, .int .i64 0, .int .i64 0, .int .i64 0, .int .i64 0, .int .i64 0, .int .i64 0, .slice none 0 0, .int .i64 0, .slice none 0 0, .string ⟨#[]⟩, .int .i64 0, .slice none 0 0, .int .i64 0, .int .i64 0, .slice none 0 0] 29 (w.alloc (.cells #[.int .i64 0, .int .i64 0, .bool false, .int .i64 0, .int .i64 0, .int .i64 0, .int .i64 0, .int .i64 0, .int .i64 0, .slice none 0 0, .int .i64 0, .slice none 0 0, .string ⟨#[]⟩, .int .i64 0, .slice none 0 0, .int .i64 0, .int .i64 0, .slice none 0 0] 29))) := Rg.Bk.new rfl
  have hb0 := Rg.hid (Rg.al1 w (.cells #[.int .i64 0, .int .i64 0, .bool false, .int .i64 0, .int .i64 0, .int .i64 0, .int .i64 0, .int .i64 0, .int .i64 0, .slice none 0 0, .int .i64 0, .slice none 0 0, .string ⟨#[]⟩, .int .i64 0, .slice none 0 0, .int .i64 0, .int .i64 0, .slice none 0 0] 29))
  obtain ⟨R, hR⟩ : ∃ R, R = w.heap.size := ⟨_, rfl⟩
  go_enter Tryz.func6, Tryz.ntmps6
  go_upto_region 1 with fail
  generalize World.alloc _ _ = w1 at *
  rw [← hR] at kR0 ⊢
  have hRw : Hid (w.heap.size ≤ R) := by show _ ≤ _; omega
  clear hR
  go_wp2_with (first | (go_at_call 17; refine (HB.out _).mono ?_; rintro e w3 ⟨CS, rfl, hd, b3⟩; obtain ⟨w4, st4, k4, o4⟩ := hd.out.over (xzDH w3) (kR0.out.below b3.out kR0.out.lt)) | (with_reducible refine is_store (.tmp 8) (.tmp 29) 29 ?_; refine list_store (.tmp 8) (.tmp 29) 29 rfl rfl st4.out ?_))
  exact bodyPost_ret (v := .tuple #[.agg CS, .string s, .int .i64 E]) (xresults_row3 rfl rfl rfl rfl (hd.out.load k4.out)) rfl ⟨CS, rfl, hd.out.bare hd0.out.1 hd0.out.2.1 hd0.out.2.2.1 hd0.out.2.2.2, (Rg.chain hb0.out b3.out).trans (o4.out.bel hRw.out)⟩
set_option maxHeartbeats 2000000 in
set_option maxRecDepth 100000 in
theorem dplain_e (ca : Bool) (z ro : Int) (w : World) : Calls Tryz.prog 33 #[.int .i64 101, .bool ca, .int .i64 z, .int .i64 ro] w fun e w' => VPost w (xeD ca) ⟨#[]⟩ 0 e w' := by
  have kR0 : Hid (Rg.Bk w.heap.size [.int .i64 0, .int .i64 0, .bool false, .int .i64 0, .int .i64 0, .int .i64 0, .int .i64 0, .int .i64 0, .int .i64 0, .slice none 0 0, .int .i64 0, .slice none 0 0, .string ⟨#[]⟩, .int .i64 0, .slice none 0 0, .int .i64 0, .int .i64 0, .slice none 0 0] 29 (w.alloc (.cells #[.int .i64 0, .int .i64 0, .bool false, .int .i64 0, .int .i64 0, .int .i64 0, .int .i64 0, .int .i64 0, .int .i64 0, .slice none 0 0, .int .i64 0, .slice none 0 0, .string ⟨#[]⟩, .int .i64 0, .slice none 0 0, .int .i64 0, .int .i64 0, .slice none 0 0] 29))) := Rg.Bk.new rfl
  have hb0 := Rg.hid (Rg.al1 w (.cells #[.int .i64 0, .int .i64 0, .bool false, .int .i64 0, .int .i64 0, .int .i64 0, .int .i64 0, .int .i64 0, .int .i64 0, .slice none 0 0, .int .i64 0, .slice none 0 0, .string ⟨#[]⟩, .int .i64 0, .slice none 0 0, .int .i64 0, .int .i64 0, .slice none 0 0] 29))
  obtain ⟨R, hR⟩ : ∃ R, R = w.heap.size := ⟨_, rfl⟩
  go_enter Tryz.func33, Tryz.ntmps33
  go_upto_region 1 with fail
  generalize World.alloc _ _ = w1 at *
  rw [← hR] at kR0 ⊢
  have hRw : Hid (w.heap.size ≤ R) := by show _ ≤ _; omega
  clear hR
  obtain ⟨w4, st4, k4, o4⟩ := (xeDH ca w1).over (xzDH w1) kR0.out
  have hres := Rg.hid ((xeDH ca w1).load k4.out)
  have hfe : Hid (Below w.heap.size w w4) := hb0.out.trans (o4.out.bel hRw.out)
  clear kR0 hb0 k4 o4
  go_wp2_with (with_reducible refine is_store (.tmp 8) (.tmp 15) 29 ?_; refine list_store (.tmp 8) (.tmp 15) 29 rfl rfl st4.out ?_)
  exact bodyPost_ret (v := .tuple #[.agg #[.int .i64 101, .int .i64 2, .bool ca, .int .i64 0, .int .i64 0, .int .i64 0, .int .i64 0, .int .i64 0, .int .i64 0, .slice none 0 0, .int .i64 0, .slice none 0 0, .string ⟨#[]⟩, .int .i64 0, .slice none 0 0, .int .i64 0, .int .i64 0, .slice none 0 0], .string ⟨#[]⟩, .int .i64 0]) (xresults_row3 rfl rfl rfl rfl hres.out) rfl ⟨_, rfl, xeDH ca w4, hfe.out⟩
set_option maxHeartbeats 2000000 in
set_option maxRecDepth 100000 in
theorem dplain_no (lt : Int) (d1 : (lt != 101) = true) (ca : Bool) (z ro : Int) (w : World) : Calls Tryz.prog 33 #[.int .i64 lt, .bool ca, .int .i64 z, .int .i64 ro] w fun e w' => VPost w xzD ⟨#[]⟩ 1 e w' := by
  have kR0 : Hid (Rg.Bk w.heap.size [.int .i64 0, .int .i64 0, .bool false, .int .i64 0, .int .i64 0, .int .i64 0, .int .i64 0, .int .i64 0, .int .i64 0, .slice none 0 0, .int .i64 0, .slice none 0 0, .string ⟨#[]⟩, .int .i64 0, .slice none 0 0, .int .i64 0, .int .i64 0, .slice none 0 0] 29 (w.alloc (.cells #[.int .i64 0, .int .i64 0, .bool false, .int .i64 0, .int .i64 0, .int .i64 0, .int .i64 0, .int .i64 0, .int .i64 0, .slice none 0 0, .int .i64 0, .slice none 0 0, .string ⟨#[]⟩, .int .i64 0, .slice none 0 0, .int .i64 0, .int .i64 0, .slice none 0 0] 29))) := Rg.Bk.new rfl
  have hb0 := Rg.hid (Rg.al1 w (.cells #[.int .i64 0, .int .i64 0, .bool false, .int .i64 0, .int .i64 0, .int .i64 0, .int .i64 0, .int .i64 0, .int .i64 0, .slice none 0 0, .int .i64 0, .slice none 0 0, .string ⟨#[]⟩, .int .i64 0, .slice none 0 0, .int .i64 0, .int .i64 0, .slice none 0 0] 29))
  obtain ⟨R, hR⟩ : ∃ R, R = w.heap.size := ⟨_, rfl⟩
  go_enter Tryz.func33, Tryz.ntmps33
  go_upto_region 1 with fail
  generalize World.alloc _ _ = w1 at *
  rw [← hR] at kR0 ⊢
  have hRw : Hid (w.heap.size ≤ R) := by show _ ≤ _; omega
  clear hR
  obtain ⟨w4, st4, k4, o4⟩ := (xzDH w1).over (xzDH w1) kR0.out
  have hres := Rg.hid ((xzDH w1).load k4.out)
  have hfe : Hid (Below w.heap.size w w4) := hb0.out.trans (o4.out.bel hRw.out)
  clear kR0 hb0 k4 o4
  go_wp2_with (with_reducible refine is_store (.tmp 8) (.tmp 13) 29 ?_; refine list_store (.tmp 8) (.tmp 13) 29 rfl rfl st4.out ?_)
  exact bodyPost_ret (v := .tuple #[.agg #[.int .i64 0, .int .i64 0, .bool false, .int .i64 0, .int .i64 0, .int .i64 0, .int .i64 0, .int .i64 0, .int .i64 0, .slice none 0 0, .int .i64 0, .slice none 0 0, .string ⟨#[]⟩, .int .i64 0, .slice none 0 0, .int .i64 0, .int .i64 0, .slice none 0 0], .string ⟨#[]⟩, .int .i64 1]) (xresults_row3 rfl rfl rfl rfl hres.out) rfl ⟨_, rfl, xzDH w4, hfe.out⟩
set_option maxHeartbeats 2000000 in
set_option maxRecDepth 100000 in
theorem dref_e (ca : Bool) (z ro : Int) (w : World) : Calls Tryz.prog 6 #[.int .i64 101, .bool ca, .int .i64 z, .int .i64 ro] w fun e w' => VPost w (xeD ca) ⟨#[]⟩ 0 e w' := by
  have kR0 : Hid (Rg.Bk w.heap.size [.int .i64 0, .int .i64 0, .bool false, .int .i64 0, .int .i64 0, .int .i64 0, .int .i64 0, .int .i64 0, .int .i64 0, .slice none 0 0, .int .i64 0, .slice none 0 0, .string ⟨#[]⟩, .int .i64 0, .slice none 0 0, .int .i64 0, .int .i64 0, .slice none 0 0] 29 (w.alloc (.cells #[.int .i64 0, .int .i64 0, .bool false, .int .i64 0, .int .i64 0, .int .i64 0, .int .i64 0, .int .i64 0, .int .i64 0, .slice none 0 0, .int .i64 0, .slice none 0 0, .string ⟨#[]⟩, .int .i64 0, .slice none 0 0, .int .i64 0, .int .i64 0, .slice none 0 0] 29))) := Rg.Bk.new rfl
  have hb0 := Rg.hid (Rg.al1 w (.cells #[.int .i64 0, .int .i64 0, .bool false, .int .i64 0, .int .i64 0, .int .i64 0, .int .i64 0, .int .i64 0, .int .i64 0, .slice none 0 0, .int .i64 0, .slice none 0 0, .string ⟨#[]⟩, .int .i64 0, .slice none 0 0, .int .i64 0, .int .i64 0, .slice none 0 0] 29))
  obtain ⟨R, hR⟩ : ∃ R, R = w.heap.size := ⟨_, rfl⟩
  go_enter Tryz.func6, Tryz.ntmps6
  go_upto_region 1 with fail
  generalize World.alloc _ _ = w1 at *
  rw [← hR] at kR0 ⊢
  have hRw : Hid (w.heap.size ≤ R) := by show _ ≤ _; omega
  clear hR
  obtain ⟨w4, st4, k4, o4⟩ := (xeDH ca w1).over (xzDH w1) kR0.out
  have hres := Rg.hid ((xeDH ca w1).load k4.out)
  have hfe : Hid (Below w.heap.size w w4) := hb0.out.trans (o4.out.bel hRw.out)
  clear kR0 hb0 k4 o4
  go_wp2_with (with_reducible refine is_store (.tmp 8) (.tmp 36) 29 ?_; refine list_store (.tmp 8) (.tmp 36) 29 rfl rfl st4.out ?_)
  exact bodyPost_ret (v := .tuple #[.agg #[.int .i64 101, .int .i64 2, .bool ca, .int .i64 0, .int .i64 0, .int .i64 0, .int .i64 0, .int .i64 0, .int .i64 0, .slice none 0 0, .int .i64 0, .slice none 0 0, .string ⟨#[]⟩, .int .i64 0, .slice none 0 0, .int .i64 0, .int .i64 0, .slice none 0 0], .string ⟨#[]⟩, .int .i64 0]) (xresults_row3 rfl rfl rfl rfl hres.out) rfl ⟨_, rfl, xeDH ca w4, hfe.out⟩
set_option maxHeartbeats 2000000 in
set_option maxRecDepth 100000 in
theorem dref_no (lt : Int) (d1 : (lt == 103) = false) (d2 : (lt == 71) = false) (d3 : (lt == 105) = false) (d4 : (lt == 101) = false) (ca : Bool) (z ro : Int) (w : World) : Calls Tryz.prog 6 #[.int .i64 lt, .bool ca, .int .i64 z, .int .i64 ro] w fun e w' => VPost w xzD ⟨#[]⟩ 1 e w' := by
  have kR0 : Hid (Rg.Bk w.heap.size [.int .i64 0, .int .i64 0, .bool false, .int .i64 0, .int .i64 0, .int .i64 0, .int .i64 0, .int .i64 0, .int .i64 0, .slice none 0 0, .int .i64 0, .slice none 0 0, .string ⟨#[]⟩, .int .i64 0, .slice none 0 0, .int .i64 0, .int .i64 0, .slice none 0 0] 29 (w.alloc (.cells #[.int .i64 0, .int .i64 0, .bool false, .int .i64 0, .int .i64 0, .int .i64 0, .int .i64 0, .int .i64 0, .int .i64 0, .slice none 0 0, .int .i64 0, .slice none 0 0, .string ⟨#[]⟩, .int .i64 0, .slice none 0 0, .int .i64 0, .int .i64 0, .slice none 0 0] 29))) := Rg.Bk.new rfl
  have hb0 := Rg.hid (Rg.al1 w (.cells #[.int .i64 0, .int .i64 0, .bool false, .int .i64 0, .int .i64 0, .int .i64 0, .int .i64 0, .int .i64 0, .int .i64 0, .slice none 0 0, .int .i64 0, .slice none 0 0, .string ⟨#[]⟩, .int .i64 0, .slice none 0 0, .int .i64 0, .int .i64 0, .slice none 0 0] 29))
  obtain ⟨R, hR⟩ : ∃ R, R = w.heap.size := ⟨_, rfl⟩
  go_enter Tryz.func6, Tryz.ntmps6
  go_upto_region 1 with fail
  generalize World.alloc _ _ = w1 at *
  rw [← hR] at kR0 ⊢
  have hRw : Hid (w.heap.size ≤ R) := by show _ ≤ _; omega
  clear hR
  obtain ⟨w4, st4, k4, o4⟩ := (xzDH w1).over (xzDH w1) kR0.out
  have hres := Rg.hid ((xzDH w1).load k4.out)
  have hfe : Hid (Below w.heap.size w w4) := hb0.out.trans (o4.out.bel hRw.out)
  clear kR0 hb0 k4 o4
  go_wp2_with (with_reducible refine is_store (.tmp 8) (.tmp 37) 29 ?_; refine list_store (.tmp 8) (.tmp 37) 29 rfl rfl st4.out ?_)
  exact bodyPost_ret (v := .tuple #[.agg #[.int .i64 0, .int .i64 0, .bool false, .int .i64 0, .int .i64 0, .int .i64 0, .int .i64 0, .int .i64 0, .int .i64 0, .slice none 0 0, .int .i64 0, .slice none 0 0, .string ⟨#[]⟩, .int .i64 0, .slice none 0 0, .int .i64 0, .int .i64 0, .slice none 0 0], .string ⟨#[]⟩, .int .i64 1]) (xresults_row3 rfl rfl rfl rfl hres.out) rfl ⟨_, rfl, xzDH w4, hfe.out⟩
theorem vpost_g {w : World} {lt z ro : Int} {ca : Bool} (h : Tk lt z ro) : Calls Tryz.prog 21 #[.int .i64 lt, .bool ca, .int .i64 z, .int .i64 ro] w fun e w' => VPost w (Gp.begin_ lt ca z ro) ⟨(Gp.ctrl 7 ro).toArray⟩ 0 e w' := by
  obtain ⟨h1, h2, h3, h4, h5⟩ := h
  exact (gbegin_yes (Kp := fun _ => True) lt ca z ro w h1 h2 h3 h4 h5 (fun _ _ => trivial)).mono fun _ _ ⟨p, h1, h2, h3⟩ => ⟨_, h1, ⟨p, rfl, h2.at_⟩, h3⟩
theorem vpost_i {w : World} {z ro : Int} {ca : Bool} (h1 : 1 ≤ z ∧ z ≤ 4095) (h2 : 1 ≤ ro ∧ ro ≤ 16) : Calls Tryz.prog 61 #[.bool ca, .int .i64 z, .int .i64 ro] w fun e w' => VPost w (Ip.begin_ ca z ro) ⟨(Ip.sync (Ip.begin_ ca z ro)).toArray⟩ 0 e w' :=
  (ibegin_yes (Kp := fun _ => True) ca z ro w h1 h2 (fun _ _ => trivial)).mono fun _ _ ⟨p, h1, h2, h3⟩ => ⟨_, h1, ⟨p, rfl, h2.at_⟩, h3⟩
theorem vpost_no {w : World} {e : Ending} {w' : World} (h : e = .returned (.tuple #[.agg #[.int .i64 0, .int .i64 0, .bool false, .int .i64 0, .int .i64 0, .int .i64 0, .int .i64 0, .int .i64 0, .int .i64 0, .slice none 0 0, .int .i64 0, .slice none 0 0, .string ⟨#[]⟩, .int .i64 0, .slice none 0 0, .int .i64 0, .int .i64 0, .slice none 0 0], .string ⟨#[]⟩, .int .i64 1]) ∧ Below w.heap.size w w') : VPost w xzD ⟨#[]⟩ 1 e w' := ⟨_, h.1, xzDH _, h.2⟩
/-- what both Begins answer -/
theorem both_begin (lt z ro : Int) (ca : Bool) : ∃ d s E, bareD d ∧ (∀ W, Calls Tryz.prog 5 #[.int .i64 lt, .bool ca, .int .i64 z, .int .i64 ro] W fun e w' => VPost W d s E e w') ∧ (∀ W, Calls Tryz.prog 6 #[.int .i64 lt, .bool ca, .int .i64 z, .int .i64 ro] W fun e w' => VPost W d s E e w') := by
  have hb : ∀ lt z ro, bareD (Gp.begin_ lt ca z ro) := fun _ _ _ => ⟨rfl, rfl, rfl, rfl⟩
  have hz : bareD xzD := ⟨rfl, rfl, rfl, rfl⟩
  have hy : ∀ (W : World) (h : Tk lt z ro), Calls Tryz.prog 16 #[.int .i64 lt, .bool ca, .int .i64 z, .int .i64 ro] W fun e w' => VPost W (Gp.begin_ lt ca z ro) ⟨(Gp.ctrl 7 ro).toArray⟩ 0 e w' := fun W h => (grbegin_yes lt ca z ro W h).mono fun e w' ⟨h1, h2⟩ => ⟨_, h1, ⟨Pl.none_, rfl, .inl rfl, .inl rfl, .inl rfl, .inl rfl⟩, h2⟩
  by_cases c1 : lt = 71
  · subst c1
    by_cases h : Tk 71 z ro
    · exact ⟨_, _, _, hb _ _ _, fun W => dbegin_G ca z ro _ _ _ W (hb _ _ _) (fun W => vpost_g h), fun W => dref_G ca z ro _ _ _ W (hb _ _ _) (fun W => hy W h)⟩
    · exact ⟨_, _, _, hz, fun W => dbegin_G ca z ro _ _ _ W hz (fun W => (gbegin_no 71 ca z ro W h).mono fun _ _ => vpost_no), fun W => dref_G ca z ro _ _ _ W hz (fun W => (grbegin_no 71 ca z ro W h).mono fun _ _ => vpost_no)⟩
  by_cases c2 : lt = 103
  · subst c2
    by_cases h : Tk 103 z ro
    · exact ⟨_, _, _, hb _ _ _, fun W => dbegin_g ca z ro _ _ _ W (hb _ _ _) (fun W => vpost_g h), fun W => dref_g ca z ro _ _ _ W (hb _ _ _) (fun W => hy W h)⟩
    · exact ⟨_, _, _, hz, fun W => dbegin_g ca z ro _ _ _ W hz (fun W => (gbegin_no 103 ca z ro W h).mono fun _ _ => vpost_no), fun W => dref_g ca z ro _ _ _ W hz (fun W => (grbegin_no 103 ca z ro W h).mono fun _ _ => vpost_no)⟩
  by_cases c3 : lt = 105
  · subst c3
    have hi : bareD (Ip.begin_ ca z ro) := ⟨rfl, rfl, rfl, rfl⟩
    by_cases h : (1 ≤ z ∧ z ≤ 4095) ∧ 1 ≤ ro ∧ ro ≤ 16
    · exact ⟨_, _, _, hi, fun W => dbegin_i ca z ro _ _ _ W hi (fun W => dbeginI_any 105 ca z ro _ _ _ W hi (fun W => vpost_i h.1 h.2)), fun W => dref_i ca z ro _ _ _ W hi (fun W => (irbegin_yes ca z ro W h.1 h.2).mono fun e w' ⟨h1, h2⟩ => ⟨_, h1, ⟨⟨none, 0, none, 0, none, 0, none, 0⟩, rfl, .inl rfl, .inl rfl, .inl rfl, .inl rfl⟩, h2⟩)⟩
    · exact ⟨_, _, _, hz, fun W => dbegin_i ca z ro _ _ _ W hz (fun W => dbeginI_any 105 ca z ro _ _ _ W hz (fun W => (ibegin_no ca z ro W h).mono fun _ _ => vpost_no)), fun W => dref_i ca z ro _ _ _ W hz (fun W => (irbegin_no ca z ro W h).mono fun _ _ => vpost_no)⟩
  have d1 : (lt == 71) = false := by simpa using c1
  have d2 : (lt == 103) = false := by simpa using c2
  have d3 : (lt == 105) = false := by simpa using c3
  by_cases c4 : lt = 101
  · subst c4
    have he : bareD (xeD ca) := ⟨rfl, rfl, rfl, rfl⟩
    exact ⟨_, _, _, he, fun W => dbegin_e 101 d1 d2 d3 ca z ro _ _ _ W he (fun W => dplain_e ca z ro W), fun W => dref_e ca z ro W⟩
  · exact ⟨_, _, _, hz, fun W => dbegin_e lt d1 d2 d3 ca z ro _ _ _ W hz (fun W => dplain_no lt (by simpa using c4) ca z ro W), fun W => dref_no lt d2 d1 d3 (by simpa using c4) ca z ro W⟩
end Go.Proofs.YtomldoijcclhhaaGreat
