/-
  Walks of layer 15: Feed. Walks of layer 15: Begin. Layer 15: drives as the laws hold them, and the calls of the package over them.
-/
import Derived.Test.YtfiffbohhhehkaaGreatBuEndI
namespace Go.Proofs.YtfiffbohhhehkaaGreat
open Go.RowKit
/-- what Feed hands back -/
def YPost (Kp : Nat → Prop) (w : World) (r : Gp.Dr × List UInt8 × List UInt8) (e : Ending) (w' : World) : Prop := ∃ p' v, e = .returned (.tuple #[DV r.1 p', .string ⟨r.2.1.toArray⟩, v]) ∧ DR Kp w' r.1 p' ∧ Below w.heap.size w w' ∧ ((r.2.2 = [] ∧ v = .slice none 0 0) ∨ ∃ g, r.2.2 ≠ [] ∧ v = .slice (some ⟨g, 0, none⟩) 1 1 ∧ w.heap.size ≤ g ∧ Rg.Bk g [.int .i64 0, .string ⟨r.2.2.toArray⟩] 44 w')
theorem BAt.shape {base : Nat} {W : World} {v : Value} {S : List UInt8} (h : BAt base W v S) : ∃ a c, v = .slice a S.length c := by
  by_cases h0 : S = []
  · subst h0
    exact ⟨none, 0, h.nil rfl⟩
  · rcases h.own.2 with ⟨e, e0⟩ | ⟨g, cap, cur, fz, e, _⟩
    · exact absurd (List.eq_nil_of_length_eq_zero e0) h0
    · exact ⟨_, _, e⟩
theorem len_end {Kp : Nat → Prop} {base eb : Nat} {w3 : World} {d : Gp.Dr} {p : Pl} {q : Bu} {S C : List UInt8} (h : EAt Kp base w3 eb d p q S C) : Calls Tryz.prog 34 #[.pointer (some ⟨eb, 20, none⟩)] w3 fun e w' => e = .returned (.int .i64 C.length) ∧ w' = w3 := by
  obtain ⟨a, c, e⟩ := h.came.shape
  exact Be.len_go eb 20 a C.length c w3 (by rw [← e]; exact h.bk.cell 21)
/-- what the second String leaves -/
theorem str_came {Kp : Nat → Prop} {base eb R : Nat} {w3 w5 : World} {d : Gp.Dr} {p : Pl} {q : Bu} {S C : List UInt8} {CR : List Value} (h : EAt Kp base w3 eb d p q S C) (h5 : Below base w3 w5 ∧ ∀ k, k < w3.heap.size → q.sb.ownBlock ≠ some k → w5.heap[k]? = w3.heap[k]?) (kE : Rg.Bk eb (EC d p q) 66 w5) (kR : Rg.Bk R CR 29 w5) :
    Calls Tryz.prog 27 #[.pointer (some ⟨eb, 20, none⟩)] w5 fun e w' => e = .returned (.string ⟨C.toArray⟩) ∧ Hid (Below base w5 w' ∧ ∀ k, k < w5.heap.size → q.cb.ownBlock ≠ some k → w'.heap[k]? = w5.heap[k]?) ∧ Hid (Rg.Bk eb (EC d p q) 66 w') ∧ Hid (Rg.Bk R CR 29 w') := by
  have hc : BAt base w5 q.cb C := h.came.kept fun g hg => h5.2 g (h.came.own.lt g hg).2 (fun e => h.apart g e hg)
  refine (Be.str base eb 20 q.cb C w5 (kE.cell 21) hc).mono fun e w' ⟨h1, h2⟩ => ?_
  exact ⟨h1, ⟨h2.bel, fun k hk hne => h2.blk k hk hne⟩, kE.same (h2.blk eb kE.lt (hc.ne kE (by decide))), kR.same (h2.blk R kR.lt (hc.ne kR (by decide)))⟩
set_option maxHeartbeats 4000000 in
set_option maxRecDepth 100000 in
theorem gfeed_any {Kp : Nat → Prop} (d : Gp.Dr) (p : Pl) (s : List UInt8) (w : World) (hd : DR Kp w d p) (hr : Gp.right d) (hm : d.at_ + d.buf.length + s.length ≤ 1099511627776) (hl : d.buf.length + s.length ≤ 40000) (hK : Hid (∀ b, w.heap.size ≤ b → Kp b)) :
    Calls Tryz.prog 12 #[DV d p, .string ⟨s.toArray⟩] w fun e w' => YPost Kp w (Gp.feed d s) e w' := by
  obtain ⟨CS, hCS⟩ : ∃ CS : Array Value, CS = (DC d p).toArray := ⟨_, rfl⟩
  have eDV : DV d p = .agg CS := by rw [hCS]; rfl
  have hin : (Tryz.prog.info? 29).map (·.size) = some CS.size := by rw [hCS]; exact infoDr2
  have kB0 : Hid (Rg.Bk w.heap.size CS.toList 29 (((w.alloc (.cells CS 29)).alloc (.cells #[.string ⟨s.toArray⟩] 9)).alloc (.cells #[.int .i64 0, .int .i64 0, .bool false, .int .i64 0, .int .i64 0, .int .i64 0, .int .i64 0, .int .i64 0, .int .i64 0, .slice none 0 0, .int .i64 0, .slice none 0 0, .string ⟨#[]⟩, .int .i64 0, .slice none 0 0, .int .i64 0, .int .i64 0, .slice none 0 0] 29))) := ((Rg.Bk.new rfl).old _).old _
  have kR0 : Hid (Rg.Bk (w.heap.size + 1 + 1) [.int .i64 0, .int .i64 0, .bool false, .int .i64 0, .int .i64 0, .int .i64 0, .int .i64 0, .int .i64 0, .int .i64 0, .slice none 0 0, .int .i64 0, .slice none 0 0, .string ⟨#[]⟩, .int .i64 0, .slice none 0 0, .int .i64 0, .int .i64 0, .slice none 0 0] 29 (((w.alloc (.cells CS 29)).alloc (.cells #[.string ⟨s.toArray⟩] 9)).alloc (.cells #[.int .i64 0, .int .i64 0, .bool false, .int .i64 0, .int .i64 0, .int .i64 0, .int .i64 0, .int .i64 0, .int .i64 0, .slice none 0 0, .int .i64 0, .slice none 0 0, .string ⟨#[]⟩, .int .i64 0, .slice none 0 0, .int .i64 0, .int .i64 0, .slice none 0 0] 29))) := Rg.Bk.new (by simp)
  have hb0 := Rg.hid (Rg.al3 w (.cells CS 29) (.cells #[.string ⟨s.toArray⟩] 9) (.cells #[.int .i64 0, .int .i64 0, .bool false, .int .i64 0, .int .i64 0, .int .i64 0, .int .i64 0, .int .i64 0, .int .i64 0, .slice none 0 0, .int .i64 0, .slice none 0 0, .string ⟨#[]⟩, .int .i64 0, .slice none 0 0, .int .i64 0, .int .i64 0, .slice none 0 0] 29))
  have kP0 : Hid (Rg.Bk (w.heap.size + 1) [.string ⟨s.toArray⟩] 9 (((w.alloc (.cells CS 29)).alloc (.cells #[.string ⟨s.toArray⟩] 9)).alloc (.cells #[.int .i64 0, .int .i64 0, .bool false, .int .i64 0, .int .i64 0, .int .i64 0, .int .i64 0, .int .i64 0, .int .i64 0, .slice none 0 0, .int .i64 0, .slice none 0 0, .string ⟨#[]⟩, .int .i64 0, .slice none 0 0, .int .i64 0, .int .i64 0, .slice none 0 0] 29))) := (Rg.Bk.new (by simp)).old _
  obtain ⟨r, hrr⟩ : ∃ r, r = Gp.feed d s := ⟨_, rfl⟩
  have HT : Hid (∀ W, Below w.heap.size w W → ∀ PB, Rg.Bk PB [.string ⟨s.toArray⟩] 9 W → Calls Tryz.prog 30 #[.agg CS, .func (.func 31) #[] #[.pointer (some ⟨PB, 0, none⟩)]] W fun e w' => ∃ eb, e = .returned (.pointer (some ⟨eb, 0, none⟩)) ∧ Hid (W.heap.size ≤ eb ∧ ES Kp w.heap.size w' eb r.1 r.2.1 r.2.2 ∧ Below w.heap.size W w' ∧ ∀ k C, Rg.Bk k C 29 W → Rg.Bk k C 29 w')) := by
    intro W hW PB kPB
    rw [← eDV]
    refine through_feed d p w W (.pointer (some ⟨PB, 0, none⟩)) hW hd hr (fun eb w' => Hid (W.heap.size ≤ eb ∧ ES Kp w.heap.size w' eb r.1 r.2.1 r.2.2 ∧ Below w.heap.size W w' ∧ ∀ k C, Rg.Bk k C 29 W → Rg.Bk k C 29 w')) fun W1 p1 q1 eb hE hB hle => ?_
    refine (feedC_any hE hr PB s ((kPB.below hB kPB.lt).cell 0) hd.ql hm hl).mono fun e w' hp => ⟨hp.1, hle, ?_, (hB.mono hW.size).trans hp.2.2.1, fun k C h => ?_⟩
    · rw [hrr]; exact hp.2.1
    · exact hp.2.2.2 k C (h.below hB h.lt)
  have hqr : Hid (r.1.queue.length ≤ 100000) := by
    rw [hrr]
    have := feed_qlen d s; have := hd.ql; show _ ≤ _; omega
  replace hrr := Rg.hid hrr
  rw [eDV]
  clear hCS eDV hd hr hm hl
  go_enter Tryz.func12, Tryz.ntmps12
  go_upto_region 1 with fail
  generalize World.alloc _ _ = w1 at *
  obtain ⟨B, hB⟩ : ∃ B, B = w.heap.size := ⟨_, rfl⟩
  obtain ⟨R, hR⟩ : ∃ R, R = w.heap.size + 1 + 1 := ⟨_, rfl⟩
  rw [← hR] at kR0 ⊢
  obtain ⟨PB, hPB⟩ : ∃ PB, PB = w.heap.size + 1 := ⟨_, rfl⟩
  rw [← hPB] at kP0 ⊢
  replace hPB := Rg.hid hPB
  rw [← hB] at kB0 ⊢
  have hRw : Hid (w.heap.size ≤ R) := by show _ ≤ _; omega
  replace hB := Rg.hid hB
  replace hR := Rg.hid hR
  have hld := Rg.hid (Rg.row_loadVar (P := Tryz.prog) (t := 29) (CS := CS) kB0.out Tryz.underlying29 rfl hin)
  have HT1 := Rg.hid (HT.out w1 hb0.out PB kP0.out)
  clear HT kB0 hin kP0
  go_upto_region 2 with (first | (refine Rg.wpList_load_row rfl (.tmp 2) 29 rfl rfl hld.out ?_) | (go_at_call 30; refine HT1.out.mono ?_; rintro e w3 ⟨eb, rfl, hq⟩))
  obtain ⟨hle, ⟨p1, q1, hE⟩, hb3, hkd⟩ := hq.out
  replace hE := Rg.hid hE
  have kR3 := Rg.hid (hkd R _ kR0.out)
  have hRe : Hid (R < eb) := Nat.lt_of_lt_of_le kR0.out.lt hle
  have hRe2 : Hid (eb ≠ R) := fun e => by have := hRe.out; omega
  have hb4 := Rg.hid (hb0.out.trans hb3)
  obtain ⟨d1, hd1⟩ : ∃ d1, d1 = r.1 := ⟨_, rfl⟩
  obtain ⟨so, hso⟩ : ∃ so, so = r.2.1 := ⟨_, rfl⟩
  obtain ⟨co, hco⟩ : ∃ co, co = r.2.2 := ⟨_, rfl⟩
  rw [← hd1] at hE hqr
  rw [← hso, ← hco] at hE
  replace hd1 := Rg.hid hd1
  replace hso := Rg.hid hso
  replace hco := Rg.hid hco
  have HL := Rg.hid (len_end hE.out)
  clear HT1 hld hq hb3 hkd kR0 hb0
  by_cases h0 : co = []
  · rw [h0] at hE HL
    have HStr := Rg.hid (str_end hE.out kR3.out)
    go_upto_region 3 with (go_at_call 34; refine HL.out.mono ?_; rintro e w4 ⟨rfl, hw⟩; obtain rfl := hw.symm)
    clear HL
    refine wp_region_held_drew (S := (fun (w' : World) => Rg.Bk eb (EC d1 p1 q1) 66 w')) (by kernel_rfl) ?_ (fun hH0 => ?_)
    · exact hE.out.bk
    refine wpAnyH_take (i := 0) (oi := { dst := some 16, op := _, type := _, pos := _, after := _, guard := _ }) (v := ?_) rfl (by kernel_rfl) (by kernel_rfl) (by kernel_rfl) (fun _ _ _ h => h) (Or.inl ⟨by rfl, ?_⟩) (by assumption) ?_
    rotate_left
    · (intro w hSw; clear hSw; go_simp); (try with_reducible rfl)
    simp only [Act.put, List.setIfInBounds_toArray, List.set_cons_zero, List.set_cons_succ]
    refine wpAnyH_take (i := 1) (oi := { dst := some 17, op := _, type := _, pos := _, after := _, guard := _ }) (v := ?_) rfl (by kernel_rfl) (by kernel_rfl) (by kernel_rfl) (fun _ _ _ h => h) (Or.inl ⟨by rfl, ?_⟩) (by assumption) ?_
    rotate_left
    · (intro w hSw; clear hSw; go_simp); (try with_reducible rfl)
    simp only [Act.put, List.setIfInBounds_toArray, List.set_cons_zero, List.set_cons_succ]
    refine wpAnyH_take (i := 2) (oi := { dst := some 18, op := _, type := _, pos := _, after := _, guard := _ }) (v := ?_) rfl (by kernel_rfl) (by kernel_rfl) (by kernel_rfl) (fun _ _ _ h => h) (Or.inl ⟨by rfl, ?_⟩) (by assumption) ?_
    rotate_left
    · (intro w hSw; clear hSw; go_simp); (try with_reducible rfl)
    simp only [Act.put, List.setIfInBounds_toArray, List.set_cons_zero, List.set_cons_succ]
    refine wpAnyH_take (i := 3) (oi := { dst := some 19, op := _, type := _, pos := _, after := _, guard := _ }) (v := DV d1 p1) rfl (by kernel_rfl) (by kernel_rfl) (by kernel_rfl) (fun _ _ _ h => h) (Or.inl ⟨by rfl, fun w hSw => exec_load_row _ _ rfl rfl (load_end hSw)⟩) (by assumption) ?_
    simp only [Act.put, List.setIfInBounds_toArray, List.set_cons_zero, List.set_cons_succ]
    refine wpAnyH_take (i := 4) (oi := { dst := some 20, op := _, type := _, pos := _, after := _, guard := _ }) (v := ?_) rfl (by kernel_rfl) (by kernel_rfl) (by kernel_rfl) (fun _ _ _ h => h) (Or.inl ⟨by rfl, ?_⟩) (by assumption) ?_
    rotate_left
    · (intro w hSw; clear hSw; go_simp); (try with_reducible rfl)
    simp only [Act.put, List.setIfInBounds_toArray, List.set_cons_zero, List.set_cons_succ]
    refine wpAnyH_take (i := 5) (oi := { dst := some 21, op := _, type := _, pos := _, after := _, guard := _ }) (v := ?_) rfl (by kernel_rfl) (by kernel_rfl) (by kernel_rfl) (fun _ _ _ h => h) (Or.inl ⟨by rfl, ?_⟩) (by assumption) ?_
    rotate_left
    · (intro w hSw; clear hSw; go_simp); (try with_reducible rfl)
    simp only [Act.put, List.setIfInBounds_toArray, List.set_cons_zero, List.set_cons_succ]
    refine wpAnyH_take (i := 6) (oi := { dst := some 22, op := _, type := _, pos := _, after := _, guard := _ }) (v := ?_) rfl (by kernel_rfl) (by kernel_rfl) (by kernel_rfl) (fun _ _ _ h => h) (Or.inl ⟨by rfl, ?_⟩) (by assumption) ?_
    rotate_left
    · (intro w hSw; clear hSw; go_simp); (try with_reducible rfl)
    simp only [Act.put, List.setIfInBounds_toArray, List.set_cons_zero, List.set_cons_succ]
    refine wpAnyH_ready (rs := [7]) (by kernel_rfl) (by simp) ?_
    refine AllReadyH.cons (o := { dst := some 23, op := _, type := _, pos := _, after := _, guard := _ }) rfl (fun K hK => ?_) AllReadyH.nil
    go_simp
    go_at_call 27; refine HStr.out.mono ?_; rintro e w5 ⟨rfl, hb5, kE5, kR5⟩
    refine hK.out _ _ ?_ (fun hH7 => ?_)
    · exact kE5.out
    clear hK K hH0
    try simp only [Act.put, List.setIfInBounds_toArray, List.set_cons_zero, List.set_cons_succ]
    obtain ⟨w6, hst, kR6, oR6⟩ := Rg.row_storeVar (P := Tryz.prog) (t := 29) (CS := (DC d1 p1).toArray) kR5.out infoDr2 rfl (by simp [DC, Value.oneCell'])
    replace hst : Hid ((storeVar 29 ⟨R, 0, none⟩ (DV d1 p1)).run Tryz.prog w5 = .ok () w6) := hst
    have kE6 : Hid (Rg.Bk eb (EC d1 p1 q1) 66 w6) := kE5.out.same (oR6.block eb hRe2.out)
    refine wpAnyH_ready (rs := [8]) (by kernel_rfl) (by simp) ?_
    refine AllReadyH.cons (o := { dst := none, op := _, type := _, pos := _, after := _, guard := _ }) rfl (fun K hK => ?_) AllReadyH.nil
    refine step_store_row (by rfl) (.tmp 4) (.tmp 19) 29 (by rfl) (by rfl) (by rfl) hst.out ?_
    refine hK.out _ _ ?_ (fun hH8 => ?_)
    · exact kE6.out
    clear hK K hH7
    simp only [Act.put]
    refine wpAnyH_take (i := 9) (oi := { dst := some 5, op := _, type := _, pos := _, after := _, guard := _ }) (v := ?_) rfl (by kernel_rfl) (by kernel_rfl) (by kernel_rfl) (fun _ _ _ h => h) (Or.inl ⟨by rfl, ?_⟩) (by assumption) ?_
    rotate_left
    · (intro w hSw; clear hSw; go_simp); (try with_reducible rfl)
    simp only [Act.put, List.setIfInBounds_toArray, List.set_cons_zero, List.set_cons_succ]
    refine wpAnyH_take (i := 10) (oi := { dst := some 6, op := _, type := _, pos := _, after := _, guard := _ }) (v := ?_) rfl (by kernel_rfl) (by kernel_rfl) (by kernel_rfl) (fun _ _ _ h => h) (Or.inl ⟨by rfl, ?_⟩) (by assumption) ?_
    rotate_left
    · (intro w hSw; clear hSw; go_simp); (try with_reducible rfl)
    simp only [Act.put, List.setIfInBounds_toArray, List.set_cons_zero, List.set_cons_succ]
    refine wpAnyH_done (by kernel_rfl) ?_ _
    have hfin : DR Kp w6 d1 p1 := hE.out.rest hqr.out hK.out kR3.out hRe.out (fun k hk h1 h2 h3 _ => by rw [oR6.block k h2]; exact hb5.out.2 k hk h3) (hb5.out.1.trans (oR6.bel hRw.out))
    have hbel : Below w.heap.size w w6 := (hb4.out.trans hb5.out.1).trans (oR6.bel hRw.out)
    have hres : (loadVar 29 ⟨R, 0, none⟩).run Tryz.prog w6 = .ok (DV d1 p1) w6 := Rg.row_loadVar (P := Tryz.prog) (t := 29) (CS := (DC d1 p1).toArray) kR6 Tryz.underlying29 rfl infoDr2
    have hfe : YPost Kp w (Gp.feed d s) (.returned (.tuple #[DV d1 p1, .string ⟨so.toArray⟩, .slice none 0 0])) w6 := by
      rw [← hrr.out]
      refine ⟨p1, _, by rw [hd1.out, hso.out], by rw [← hd1.out]; exact hfin, hbel, .inl ⟨by rw [← hco.out]; exact h0, rfl⟩⟩
    clear hfin hbel hE HStr hb5 kE5 kR5 oR6 kE6 kR6 hst hb4 kR3 hH8
    go_wp2
    exact bodyPost_ret (v := .tuple #[DV d1 p1, .string ⟨so.toArray⟩, .slice none 0 0]) (results_row3 rfl rfl rfl rfl hres) rfl hfe
  · have hz : (((co.length : Nat) : Int) == 0) = false := by
      cases co with
      | nil => exact absurd rfl h0
      | cons a l => simp; omega
    have HStr := Rg.hid (str_end hE.out kR3.out)
    go_upto_region 3 with (go_at_call 34; refine HL.out.mono ?_; rintro e w4 ⟨rfl, hw⟩; obtain rfl := hw.symm)
    clear HL
    refine wp_region_held_drew (S := (fun (w' : World) => Rg.Bk eb (EC d1 p1 q1) 66 w')) (by kernel_rfl) ?_ (fun hH0 => ?_)
    · exact hE.out.bk
    refine wpAnyH_take (i := 0) (oi := { dst := some 24, op := _, type := _, pos := _, after := _, guard := _ }) (v := ?_) rfl (by kernel_rfl) (by kernel_rfl) (by kernel_rfl) (fun _ _ _ h => h) (Or.inl ⟨by rfl, ?_⟩) (by assumption) ?_
    rotate_left
    · (intro w hSw; clear hSw; go_simp); (try with_reducible rfl)
    simp only [Act.put, List.setIfInBounds_toArray, List.set_cons_zero, List.set_cons_succ]
    refine wpAnyH_take (i := 1) (oi := { dst := some 25, op := _, type := _, pos := _, after := _, guard := _ }) (v := ?_) rfl (by kernel_rfl) (by kernel_rfl) (by kernel_rfl) (fun _ _ _ h => h) (Or.inl ⟨by rfl, ?_⟩) (by assumption) ?_
    rotate_left
    · (intro w hSw; clear hSw; go_simp); (try with_reducible rfl)
    simp only [Act.put, List.setIfInBounds_toArray, List.set_cons_zero, List.set_cons_succ]
    refine wpAnyH_take (i := 2) (oi := { dst := some 26, op := _, type := _, pos := _, after := _, guard := _ }) (v := ?_) rfl (by kernel_rfl) (by kernel_rfl) (by kernel_rfl) (fun _ _ _ h => h) (Or.inl ⟨by rfl, ?_⟩) (by assumption) ?_
    rotate_left
    · (intro w hSw; clear hSw; go_simp); (try with_reducible rfl)
    simp only [Act.put, List.setIfInBounds_toArray, List.set_cons_zero, List.set_cons_succ]
    refine wpAnyH_take (i := 3) (oi := { dst := some 27, op := _, type := _, pos := _, after := _, guard := _ }) (v := DV d1 p1) rfl (by kernel_rfl) (by kernel_rfl) (by kernel_rfl) (fun _ _ _ h => h) (Or.inl ⟨by rfl, fun w hSw => exec_load_row _ _ rfl rfl (load_end hSw)⟩) (by assumption) ?_
    simp only [Act.put, List.setIfInBounds_toArray, List.set_cons_zero, List.set_cons_succ]
    refine wpAnyH_take (i := 4) (oi := { dst := some 28, op := _, type := _, pos := _, after := _, guard := _ }) (v := ?_) rfl (by kernel_rfl) (by kernel_rfl) (by kernel_rfl) (fun _ _ _ h => h) (Or.inl ⟨by rfl, ?_⟩) (by assumption) ?_
    rotate_left
    · (intro w hSw; clear hSw; go_simp); (try with_reducible rfl)
    simp only [Act.put, List.setIfInBounds_toArray, List.set_cons_zero, List.set_cons_succ]
    refine wpAnyH_take (i := 5) (oi := { dst := some 29, op := _, type := _, pos := _, after := _, guard := _ }) (v := ?_) rfl (by kernel_rfl) (by kernel_rfl) (by kernel_rfl) (fun _ _ _ h => h) (Or.inl ⟨by rfl, ?_⟩) (by assumption) ?_
    rotate_left
    · (intro w hSw; clear hSw; go_simp); (try with_reducible rfl)
    simp only [Act.put, List.setIfInBounds_toArray, List.set_cons_zero, List.set_cons_succ]
    refine wpAnyH_take (i := 6) (oi := { dst := some 30, op := _, type := _, pos := _, after := _, guard := _ }) (v := ?_) rfl (by kernel_rfl) (by kernel_rfl) (by kernel_rfl) (fun _ _ _ h => h) (Or.inl ⟨by rfl, ?_⟩) (by assumption) ?_
    rotate_left
    · (intro w hSw; clear hSw; go_simp); (try with_reducible rfl)
    simp only [Act.put, List.setIfInBounds_toArray, List.set_cons_zero, List.set_cons_succ]
    refine wpAnyH_take (i := 8) (oi := { dst := some 32, op := _, type := _, pos := _, after := _, guard := _ }) (v := ?_) rfl (by kernel_rfl) (by kernel_rfl) (by kernel_rfl) (fun _ _ _ h => h) (Or.inl ⟨by rfl, ?_⟩) (by assumption) ?_
    rotate_left
    · (intro w hSw; clear hSw; go_simp); (try with_reducible rfl)
    simp only [Act.put, List.setIfInBounds_toArray, List.set_cons_zero, List.set_cons_succ]
    refine wpAnyH_take (i := 9) (oi := { dst := some 33, op := _, type := _, pos := _, after := _, guard := _ }) (v := ?_) rfl (by kernel_rfl) (by kernel_rfl) (by kernel_rfl) (fun _ _ _ h => h) (Or.inl ⟨by rfl, ?_⟩) (by assumption) ?_
    rotate_left
    · (intro w hSw; clear hSw; go_simp); (try with_reducible rfl)
    simp only [Act.put, List.setIfInBounds_toArray, List.set_cons_zero, List.set_cons_succ]
    refine wpAnyH_take (i := 10) (oi := { dst := some 34, op := _, type := _, pos := _, after := _, guard := _ }) (v := ?_) rfl (by kernel_rfl) (by kernel_rfl) (by kernel_rfl) (fun _ _ _ h => h) (Or.inl ⟨by rfl, ?_⟩) (by assumption) ?_
    rotate_left
    · (intro w hSw; clear hSw; go_simp); (try with_reducible rfl)
    simp only [Act.put, List.setIfInBounds_toArray, List.set_cons_zero, List.set_cons_succ]
    refine wpAnyH_ready (rs := [7]) (by kernel_rfl) (by simp) ?_
    refine AllReadyH.cons (o := { dst := some 31, op := _, type := _, pos := _, after := _, guard := _ }) rfl (fun K hK => ?_) AllReadyH.nil
    go_simp
    go_at_call 27; refine HStr.out.mono ?_; rintro e w5 ⟨rfl, hb5, kE5, kR5⟩
    refine hK.out _ _ ?_ (fun hH7 => ?_)
    · exact kE5.out
    clear hK K hH0
    try simp only [Act.put, List.setIfInBounds_toArray, List.set_cons_zero, List.set_cons_succ]
    have HStr2 := Rg.hid (str_came hE.out hb5.out kE5.out kR5.out)
    refine wpAnyH_ready (rs := [11]) (by kernel_rfl) (by simp) ?_
    refine AllReadyH.cons (o := { dst := some 35, op := _, type := _, pos := _, after := _, guard := _ }) rfl (fun K hK => ?_) AllReadyH.nil
    go_simp
    go_at_call 27; refine HStr2.out.mono ?_; rintro e w6 ⟨rfl, hb6, kE6, kR6⟩
    refine hK.out _ _ ?_ (fun hH11 => ?_)
    · exact kE6.out
    clear hK K hH7
    try simp only [Act.put, List.setIfInBounds_toArray, List.set_cons_zero, List.set_cons_succ]
    refine wpAnyH_take (i := 12) (oi := { dst := some 36, op := _, type := _, pos := _, after := _, guard := _ }) (v := ?_) rfl (by kernel_rfl) (by kernel_rfl) (by kernel_rfl) (fun _ _ _ h => h) (Or.inl ⟨by rfl, ?_⟩) (by assumption) ?_
    rotate_left
    · (intro w hSw; clear hSw; go_simp); (try with_reducible rfl)
    simp only [Act.put, List.setIfInBounds_toArray, List.set_cons_zero, List.set_cons_succ]
    have hs6 : Hid (w.heap.size ≤ w6.heap.size) := by show _ ≤ _; have := hb4.out.size; have := hb5.out.1.size; have := hb6.out.1.size; omega
    refine wpAnyH_ready (rs := [13, 14]) (by kernel_rfl) (by simp) ?_
    refine AllReadyH.cons (o := { dst := some 37, op := _, type := _, pos := _, after := _, guard := _ }) rfl (fun K hK => ?_) (AllReadyH.cons (o := { dst := none, op := _, type := _, pos := _, after := _, guard := _ }) rfl (fun K hK => ?_) AllReadyH.nil)
    · have kE7 : Hid (Rg.Bk eb (EC d1 p1 q1) 66 (w6.alloc (.cells #[.int .i64 0, .string ⟨co.toArray⟩] 44))) := kE6.out.old _
      have kR7 : Hid (Rg.Bk R _ 29 (w6.alloc (.cells #[.int .i64 0, .string ⟨co.toArray⟩] 44))) := kR6.out.old _
      have kP7 : Hid (Rg.Bk w6.heap.size [.int .i64 0, .string ⟨co.toArray⟩] 44 (w6.alloc (.cells #[.int .i64 0, .string ⟨co.toArray⟩] 44))) := Rg.Bk.new rfl
      go_simp
      refine hK.out _ _ ?_ (fun hH13 => ?_)
      · exact kE7.out
      clear hK K hH11
      try simp only [Act.put, List.setIfInBounds_toArray, List.set_cons_zero, List.set_cons_succ]
      obtain ⟨w8, hst, kR8, oR8⟩ := Rg.row_storeVar (P := Tryz.prog) (t := 29) (CS := (DC d1 p1).toArray) kR7.out infoDr2 rfl (by simp [DC, Value.oneCell'])
      replace hst : Hid ((storeVar 29 ⟨R, 0, none⟩ (DV d1 p1)).run Tryz.prog (w6.alloc (.cells #[.int .i64 0, .string ⟨co.toArray⟩] 44)) = .ok () w8) := hst
      have kE8 : Hid (Rg.Bk eb (EC d1 p1 q1) 66 w8) := kE7.out.same (oR8.block eb hRe2.out)
      refine wpAnyH_ready (rs := [14]) (by kernel_rfl) (by simp) ?_
      refine AllReadyH.cons (o := { dst := none, op := _, type := _, pos := _, after := _, guard := _ }) rfl (fun K hK => ?_) AllReadyH.nil
      refine step_store_row (by rfl) (.tmp 4) (.tmp 27) 29 (by rfl) (by rfl) (by rfl) hst.out ?_
      refine hK.out _ _ ?_ (fun hH14 => ?_)
      · exact kE8.out
      clear hK K hH13
      simp only [Act.put]
      refine wpAnyH_take (i := 15) (oi := { dst := some 5, op := _, type := _, pos := _, after := _, guard := _ }) (v := ?_) rfl (by kernel_rfl) (by kernel_rfl) (by kernel_rfl) (fun _ _ _ h => h) (Or.inl ⟨by rfl, ?_⟩) (by assumption) ?_
      rotate_left
      · (intro w hSw; clear hSw; go_simp); (try with_reducible rfl)
      simp only [Act.put, List.setIfInBounds_toArray, List.set_cons_zero, List.set_cons_succ]
      refine wpAnyH_take (i := 16) (oi := { dst := some 6, op := _, type := _, pos := _, after := _, guard := _ }) (v := ?_) rfl (by kernel_rfl) (by kernel_rfl) (by kernel_rfl) (fun _ _ _ h => h) (Or.inl ⟨by rfl, ?_⟩) (by assumption) ?_
      rotate_left
      · (intro w hSw; clear hSw; go_simp); (try with_reducible rfl)
      simp only [Act.put, List.setIfInBounds_toArray, List.set_cons_zero, List.set_cons_succ]
      refine wpAnyH_done (by kernel_rfl) ?_ _
      have hs8 : w6.heap.size ≤ w6.heap.size := Nat.le_refl _
      have hRP : w6.heap.size ≠ R := fun e => by have := kR6.out.lt; omega
      have hbP : Below w.heap.size w6 (w6.alloc (.cells #[.int .i64 0, .string ⟨co.toArray⟩] 44)) := (Rg.al1 _ _).mono hs6.out
      have hfin : DR Kp w8 d1 p1 := hE.out.rest hqr.out hK.out kR3.out hRe.out (fun k hk h1 h2 h3 h4 => by rw [oR8.block k h2, (Rg.al1 w6 (.cells #[.int .i64 0, .string ⟨co.toArray⟩] 44)).block k (by have := hb5.out.1.size; have := hb6.out.1.size; omega), hb6.out.2 k (by have := hb5.out.1.size; omega) h4]; exact hb5.out.2 k hk h3) ((hb5.out.1.trans hb6.out.1).trans (hbP.trans (oR8.bel hRw.out)))
      have hbel : Below w.heap.size w w8 := ((hb4.out.trans hb5.out.1).trans hb6.out.1).trans (hbP.trans (oR8.bel hRw.out))
      have hres : (loadVar 29 ⟨R, 0, none⟩).run Tryz.prog w8 = .ok (DV d1 p1) w8 := Rg.row_loadVar (P := Tryz.prog) (t := 29) (CS := (DC d1 p1).toArray) kR8 Tryz.underlying29 rfl infoDr2
      have hfe : YPost Kp w (Gp.feed d s) (.returned (.tuple #[DV d1 p1, .string ⟨so.toArray⟩, .slice (some ⟨w6.heap.size, 0, none⟩) 1 1])) w8 := by
        rw [← hrr.out]
        refine ⟨p1, _, by rw [hd1.out, hso.out], by rw [← hd1.out]; exact hfin, hbel, .inr ⟨w6.heap.size, by rw [← hco.out]; exact h0, rfl, (by have := hb4.out.size; have := hb5.out.1.size; have := hb6.out.1.size; have := hs8; omega), by rw [← hco.out]; exact (kP7.out.same (oR8.block w6.heap.size hRP))⟩⟩
      go_wp2
      exact bodyPost_ret (v := .tuple #[DV d1 p1, .string ⟨so.toArray⟩, .slice (some ⟨w6.heap.size, 0, none⟩) 1 1]) (results_row3 rfl rfl rfl rfl hres) rfl hfe
    · obtain ⟨w8, hst, kR8, oR8⟩ := Rg.row_storeVar (P := Tryz.prog) (t := 29) (CS := (DC d1 p1).toArray) kR6.out infoDr2 rfl (by simp [DC, Value.oneCell'])
      replace hst : Hid ((storeVar 29 ⟨R, 0, none⟩ (DV d1 p1)).run Tryz.prog w6 = .ok () w8) := hst
      have kE8 : Hid (Rg.Bk eb (EC d1 p1 q1) 66 w8) := kE6.out.same (oR8.block eb hRe2.out)
      refine step_store_row (by rfl) (.tmp 4) (.tmp 27) 29 (by rfl) (by rfl) (by rfl) hst.out ?_
      refine hK.out _ _ ?_ (fun hH14 => ?_)
      · exact kE8.out
      clear hK K hH11
      simp only [Act.put]
      refine wpAnyH_take (i := 15) (oi := { dst := some 5, op := _, type := _, pos := _, after := _, guard := _ }) (v := ?_) rfl (by kernel_rfl) (by kernel_rfl) (by kernel_rfl) (fun _ _ _ h => h) (Or.inl ⟨by rfl, ?_⟩) (by assumption) ?_
      rotate_left
      · (intro w hSw; clear hSw; go_simp); (try with_reducible rfl)
      simp only [Act.put, List.setIfInBounds_toArray, List.set_cons_zero, List.set_cons_succ]
      have kE9 : Hid (Rg.Bk eb (EC d1 p1 q1) 66 (w8.alloc (.cells #[.int .i64 0, .string ⟨co.toArray⟩] 44))) := kE8.out.old _
      have kR9 : Hid (Rg.Bk R _ 29 (w8.alloc (.cells #[.int .i64 0, .string ⟨co.toArray⟩] 44))) := kR8.old _
      have kP9 : Hid (Rg.Bk w8.heap.size [.int .i64 0, .string ⟨co.toArray⟩] 44 (w8.alloc (.cells #[.int .i64 0, .string ⟨co.toArray⟩] 44))) := Rg.Bk.new rfl
      refine wpAnyH_ready (rs := [13]) (by kernel_rfl) (by simp) ?_
      refine AllReadyH.cons (o := { dst := some 37, op := _, type := _, pos := _, after := _, guard := _ }) rfl (fun K hK => ?_) AllReadyH.nil
      go_simp
      refine hK.out _ _ ?_ (fun hH13 => ?_)
      · exact kE9.out
      clear hK K hH14
      try simp only [Act.put, List.setIfInBounds_toArray, List.set_cons_zero, List.set_cons_succ]
      refine wpAnyH_take (i := 16) (oi := { dst := some 6, op := _, type := _, pos := _, after := _, guard := _ }) (v := ?_) rfl (by kernel_rfl) (by kernel_rfl) (by kernel_rfl) (fun _ _ _ h => h) (Or.inl ⟨by rfl, ?_⟩) (by assumption) ?_
      rotate_left
      · (intro w hSw; clear hSw; go_simp); (try with_reducible rfl)
      simp only [Act.put, List.setIfInBounds_toArray, List.set_cons_zero, List.set_cons_succ]
      refine wpAnyH_done (by kernel_rfl) ?_ _
      have hs8 : w6.heap.size ≤ w8.heap.size := (oR8.bel (Nat.zero_le R)).size
      have hbP : Below w.heap.size w8 (w8.alloc (.cells #[.int .i64 0, .string ⟨co.toArray⟩] 44)) := (Rg.al1 _ _).mono (Nat.le_trans hs6.out hs8)
      have hfin : DR Kp (w8.alloc (.cells #[.int .i64 0, .string ⟨co.toArray⟩] 44)) d1 p1 := hE.out.rest hqr.out hK.out kR3.out hRe.out (fun k hk h1 h2 h3 h4 => by rw [(Rg.al1 w8 (.cells #[.int .i64 0, .string ⟨co.toArray⟩] 44)).block k (by have := hb5.out.1.size; have := hb6.out.1.size; omega), oR8.block k h2, hb6.out.2 k (by have := hb5.out.1.size; omega) h4]; exact hb5.out.2 k hk h3) ((hb5.out.1.trans hb6.out.1).trans ((oR8.bel hRw.out).trans hbP))
      have hbel : Below w.heap.size w (w8.alloc (.cells #[.int .i64 0, .string ⟨co.toArray⟩] 44)) := ((hb4.out.trans hb5.out.1).trans hb6.out.1).trans ((oR8.bel hRw.out).trans hbP)
      have hres : (loadVar 29 ⟨R, 0, none⟩).run Tryz.prog (w8.alloc (.cells #[.int .i64 0, .string ⟨co.toArray⟩] 44)) = .ok (DV d1 p1) (w8.alloc (.cells #[.int .i64 0, .string ⟨co.toArray⟩] 44)) := Rg.row_loadVar (P := Tryz.prog) (t := 29) (CS := (DC d1 p1).toArray) kR9.out Tryz.underlying29 rfl infoDr2
      have hfe : YPost Kp w (Gp.feed d s) (.returned (.tuple #[DV d1 p1, .string ⟨so.toArray⟩, .slice (some ⟨w8.heap.size, 0, none⟩) 1 1])) (w8.alloc (.cells #[.int .i64 0, .string ⟨co.toArray⟩] 44)) := by
        rw [← hrr.out]
        refine ⟨p1, _, by rw [hd1.out, hso.out], by rw [← hd1.out]; exact hfin, hbel, .inr ⟨w8.heap.size, by rw [← hco.out]; exact h0, rfl, (by have := hb4.out.size; have := hb5.out.1.size; have := hb6.out.1.size; have := hs8; omega), by rw [← hco.out]; exact kP9.out⟩⟩
      go_wp2
      exact bodyPost_ret (v := .tuple #[DV d1 p1, .string ⟨so.toArray⟩, .slice (some ⟨w8.heap.size, 0, none⟩) 1 1]) (results_row3 rfl rfl rfl rfl hres) rfl hfe
end Go.Proofs.YtfiffbohhhehkaaGreat

namespace Go.Proofs.YtfiffbohhhehkaaGreat
open Go.RowKit
/-- where nothing lies -/
def Pl.none_ : Pl := ⟨none, 0, none, 0, none, 0, none, 0⟩
theorem DR.zero {Kp : Nat → Prop} (W : World) (lt : Int) (ca : Bool) (z ro : Int) : DR Kp W (Gp.begin_ lt ca z ro) Pl.none_ := ⟨⟨.inl rfl, .inl rfl, .inl rfl, .inl rfl⟩, Nat.le_refl _, Nat.zero_le _, .inl rfl, .inl rfl, .inl rfl, .inl rfl⟩
/-- what Begin hands back -/
def GBPost (Kp : Nat → Prop) (w : World) (d : Gp.Dr) (s : List UInt8) (e : Ending) (w' : World) : Prop := ∃ p', e = .returned (.tuple #[DV d p', .string ⟨s.toArray⟩, .int .i64 0]) ∧ DR Kp w' d p' ∧ Below w.heap.size w w'
set_option maxHeartbeats 4000000 in
set_option maxRecDepth 100000 in
theorem gbegin_yes {Kp : Nat → Prop} (lt : Int) (ca : Bool) (z ro : Int) (w : World) (h1 : lt = 103 ∨ lt = 71) (h2 : Gf.code z ≠ 0) (h3 : lt = 103 → z ≤ 64) (h4 : 1 ≤ ro) (h5 : ro ≤ 7) (hK : Hid (∀ b, w.heap.size ≤ b → Kp b)) :
    Calls Tryz.prog 7 #[.int .i64 lt, .bool ca, .int .i64 z, .int .i64 ro] w fun e w' => GBPost Kp w (Gp.begin_ lt ca z ro) (Gp.opening (Gp.begin_ lt ca z ro) 0) e w' := by
  have HM := Rg.hid (fun W => gmayBe_yes h1 h2 h3 h4 h5 W)
  have kR0 : Hid (Rg.Bk w.heap.size [.int .i64 0, .int .i64 0, .bool false, .int .i64 0, .int .i64 0, .int .i64 0, .int .i64 0, .int .i64 0, .int .i64 0, .slice none 0 0, .int .i64 0, .slice none 0 0, .string ⟨#[]⟩, .int .i64 0, .slice none 0 0, .int .i64 0, .int .i64 0, .slice none 0 0] 29 (w.alloc (.cells #[.int .i64 0, .int .i64 0, .bool false, .int .i64 0, .int .i64 0, .int .i64 0, .int .i64 0, .int .i64 0, .int .i64 0, .slice none 0 0, .int .i64 0, .slice none 0 0, .string ⟨#[]⟩, .int .i64 0, .slice none 0 0, .int .i64 0, .int .i64 0, .slice none 0 0] 29))) := Rg.Bk.new (by simp)
  have hb0 := Rg.hid (Rg.al1 w (.cells #[.int .i64 0, .int .i64 0, .bool false, .int .i64 0, .int .i64 0, .int .i64 0, .int .i64 0, .int .i64 0, .int .i64 0, .slice none 0 0, .int .i64 0, .slice none 0 0, .string ⟨#[]⟩, .int .i64 0, .slice none 0 0, .int .i64 0, .int .i64 0, .slice none 0 0] 29))
  have HO : Hid (∀ W eb, w.heap.size ≤ eb → Rg.Bk eb [.int .i64 lt, .int .i64 1, .bool ca, .int .i64 0, .int .i64 z, .int .i64 ro, .int .i64 0, .int .i64 0, .int .i64 0, .slice none 0 0, .int .i64 1, .slice none 0 0, .string ⟨#[]⟩, .int .i64 0, .slice none 0 0, .int .i64 0, .int .i64 0, .slice none 0 0, .pointer none, .slice none 0 0, .pointer none, .slice none 0 0] 66 W → Below w.heap.size w W → Calls Tryz.prog 26 #[.pointer (some ⟨eb, 0, none⟩), .int .i64 0] W fun e w' => e = .returned (.tuple #[]) ∧ Hid (∃ p1 q1, EAt Kp w.heap.size w' eb (Gp.begin_ lt ca z ro) p1 q1 (Gp.opening (Gp.begin_ lt ca z ro) 0) []) ∧ Hid (Fr w.heap.size eb W w')) := fun W eb hn k hb => by
    have hE := (DR.zero (Kp := Kp) w lt ca z ro).end_ hb k hn
    exact (sayOpening_any hE 0 (Int.le_refl _) (by decide) h2 h4 h5 (by simp)).mono fun e w' hp => hp
  obtain ⟨d1, hd1⟩ : ∃ d1, d1 = Gp.begin_ lt ca z ro := ⟨_, rfl⟩
  obtain ⟨so, hso⟩ : ∃ so, so = Gp.opening (Gp.begin_ lt ca z ro) 0 := ⟨_, rfl⟩
  have hqr : Hid (d1.queue.length ≤ 100000) := by rw [hd1]; exact Nat.zero_le _
  rw [← hso, ← hd1] at HO ⊢
  replace hd1 := Rg.hid hd1
  replace hso := Rg.hid hso
  clear h1 h2 h3 h4 h5
  go_enter Tryz.func7, Tryz.ntmps7
  go_upto_region 1 with fail
  generalize World.alloc _ _ = w1 at *
  obtain ⟨R, hR⟩ : ∃ R, R = w.heap.size := ⟨_, rfl⟩
  rw [← hR] at kR0 ⊢
  have hRw : Hid (w.heap.size ≤ R) := by show _ ≤ _; omega
  replace hR := Rg.hid hR
  have kE0 : Hid (Rg.Bk w1.heap.size [.int .i64 lt, .int .i64 1, .bool ca, .int .i64 0, .int .i64 z, .int .i64 ro, .int .i64 0, .int .i64 0, .int .i64 0, .slice none 0 0, .int .i64 1, .slice none 0 0, .string ⟨#[]⟩, .int .i64 0, .slice none 0 0, .int .i64 0, .int .i64 0, .slice none 0 0, .pointer none, .slice none 0 0, .pointer none, .slice none 0 0] 66 (w1.alloc (.cells #[.int .i64 lt, .int .i64 1, .bool ca, .int .i64 0, .int .i64 z, .int .i64 ro, .int .i64 0, .int .i64 0, .int .i64 0, .slice none 0 0, .int .i64 1, .slice none 0 0, .string ⟨#[]⟩, .int .i64 0, .slice none 0 0, .int .i64 0, .int .i64 0, .slice none 0 0, .pointer none, .slice none 0 0, .pointer none, .slice none 0 0] 66))) := Rg.Bk.new rfl
  have b2 := Rg.hid (Rg.al1 w1 (.cells #[.int .i64 lt, .int .i64 1, .bool ca, .int .i64 0, .int .i64 z, .int .i64 ro, .int .i64 0, .int .i64 0, .int .i64 0, .slice none 0 0, .int .i64 1, .slice none 0 0, .string ⟨#[]⟩, .int .i64 0, .slice none 0 0, .int .i64 0, .int .i64 0, .slice none 0 0, .pointer none, .slice none 0 0, .pointer none, .slice none 0 0] 66))
  go_upto_region 4 with (go_at_call 25; refine (HM.out _).mono ?_; rintro e w2 ⟨rfl, hw⟩; obtain rfl := hw.symm)
  generalize World.alloc _ _ = w2 at *
  have hb2 := Rg.hid (Rg.chain hb0.out b2.out)
  have kR2 := Rg.hid (kR0.out.below b2.out kR0.out.lt)
  obtain ⟨eb, heb⟩ : ∃ eb, eb = w1.heap.size := ⟨_, rfl⟩
  rw [← heb] at kE0 ⊢
  have hRe : Hid (R < eb) := by show _ < _; rw [heb]; exact kR0.out.lt
  have hle : w.heap.size ≤ eb := by rw [heb]; exact hb0.out.size
  replace heb := Rg.hid heb
  have hRe2 : Hid (eb ≠ R) := fun e => by have := hRe.out; omega
  have HO1 := Rg.hid (HO.out w2 eb hle kE0.out hb2.out)
  clear HO kE0 b2 hle HM hb0 kR0
  go_upto_region 5 with (go_at_call 26; refine HO1.out.mono ?_; rintro e w3 ⟨rfl, hq, hf⟩)
  obtain ⟨p1, q1, hE⟩ := hq.out
  replace hE := Rg.hid hE
  have kR3 := Rg.hid (hf.out.bk kR2.out (fun e => hRe2.out e.symm) (by decide))
  have hb4 := Rg.hid (hb2.out.trans hf.out.bel)
  have HStr := Rg.hid (str_end hE.out kR3.out)
  clear HO1 hq hf hb2 kR2
  refine wp_region_held_drew (S := (fun (w' : World) => Rg.Bk eb (EC d1 p1 q1) 66 w')) (by kernel_rfl) ?_ (fun hH0 => ?_)
  · exact hE.out.bk
  refine wpAnyH_take (i := 0) (oi := { dst := some 27, op := _, type := _, pos := _, after := _, guard := _ }) (v := ?_) rfl (by kernel_rfl) (by kernel_rfl) (by kernel_rfl) (fun _ _ _ h => h) (Or.inl ⟨by rfl, ?_⟩) (by assumption) ?_
  rotate_left
  · (intro w hSw; clear hSw; go_simp); (try with_reducible rfl)
  simp only [Act.put, List.setIfInBounds_toArray, List.set_cons_zero, List.set_cons_succ]
  refine wpAnyH_take (i := 1) (oi := { dst := some 28, op := _, type := _, pos := _, after := _, guard := _ }) (v := ?_) rfl (by kernel_rfl) (by kernel_rfl) (by kernel_rfl) (fun _ _ _ h => h) (Or.inl ⟨by rfl, ?_⟩) (by assumption) ?_
  rotate_left
  · (intro w hSw; clear hSw; go_simp); (try with_reducible rfl)
  simp only [Act.put, List.setIfInBounds_toArray, List.set_cons_zero, List.set_cons_succ]
  refine wpAnyH_take (i := 2) (oi := { dst := some 29, op := _, type := _, pos := _, after := _, guard := _ }) (v := ?_) rfl (by kernel_rfl) (by kernel_rfl) (by kernel_rfl) (fun _ _ _ h => h) (Or.inl ⟨by rfl, ?_⟩) (by assumption) ?_
  rotate_left
  · (intro w hSw; clear hSw; go_simp); (try with_reducible rfl)
  simp only [Act.put, List.setIfInBounds_toArray, List.set_cons_zero, List.set_cons_succ]
  refine wpAnyH_take (i := 3) (oi := { dst := some 30, op := _, type := _, pos := _, after := _, guard := _ }) (v := DV d1 p1) rfl (by kernel_rfl) (by kernel_rfl) (by kernel_rfl) (fun _ _ _ h => h) (Or.inl ⟨by rfl, fun w hSw => exec_load_row _ _ rfl rfl (load_end hSw)⟩) (by assumption) ?_
  simp only [Act.put, List.setIfInBounds_toArray, List.set_cons_zero, List.set_cons_succ]
  refine wpAnyH_take (i := 4) (oi := { dst := some 31, op := _, type := _, pos := _, after := _, guard := _ }) (v := ?_) rfl (by kernel_rfl) (by kernel_rfl) (by kernel_rfl) (fun _ _ _ h => h) (Or.inl ⟨by rfl, ?_⟩) (by assumption) ?_
  rotate_left
  · (intro w hSw; clear hSw; go_simp); (try with_reducible rfl)
  simp only [Act.put, List.setIfInBounds_toArray, List.set_cons_zero, List.set_cons_succ]
  refine wpAnyH_take (i := 5) (oi := { dst := some 32, op := _, type := _, pos := _, after := _, guard := _ }) (v := ?_) rfl (by kernel_rfl) (by kernel_rfl) (by kernel_rfl) (fun _ _ _ h => h) (Or.inl ⟨by rfl, ?_⟩) (by assumption) ?_
  rotate_left
  · (intro w hSw; clear hSw; go_simp); (try with_reducible rfl)
  simp only [Act.put, List.setIfInBounds_toArray, List.set_cons_zero, List.set_cons_succ]
  refine wpAnyH_take (i := 6) (oi := { dst := some 33, op := _, type := _, pos := _, after := _, guard := _ }) (v := ?_) rfl (by kernel_rfl) (by kernel_rfl) (by kernel_rfl) (fun _ _ _ h => h) (Or.inl ⟨by rfl, ?_⟩) (by assumption) ?_
  rotate_left
  · (intro w hSw; clear hSw; go_simp); (try with_reducible rfl)
  simp only [Act.put, List.setIfInBounds_toArray, List.set_cons_zero, List.set_cons_succ]
  refine wpAnyH_ready (rs := [7]) (by kernel_rfl) (by simp) ?_
  refine AllReadyH.cons (o := { dst := some 34, op := _, type := _, pos := _, after := _, guard := _ }) rfl (fun K hK => ?_) AllReadyH.nil
  go_simp
  go_at_call 27; refine HStr.out.mono ?_; rintro e w5 ⟨rfl, hb5, kE5, kR5⟩
  refine hK.out _ _ ?_ (fun hH7 => ?_)
  · exact kE5.out
  clear hK K hH0
  try simp only [Act.put, List.setIfInBounds_toArray, List.set_cons_zero, List.set_cons_succ]
  obtain ⟨w6, hst, kR6, oR6⟩ := Rg.row_storeVar (P := Tryz.prog) (t := 29) (CS := (DC d1 p1).toArray) kR5.out infoDr2 rfl (by simp [DC, Value.oneCell'])
  replace hst : Hid ((storeVar 29 ⟨R, 0, none⟩ (DV d1 p1)).run Tryz.prog w5 = .ok () w6) := hst
  have kE6 : Hid (Rg.Bk eb (EC d1 p1 q1) 66 w6) := kE5.out.same (oR6.block eb hRe2.out)
  refine wpAnyH_ready (rs := [8]) (by kernel_rfl) (by simp) ?_
  refine AllReadyH.cons (o := { dst := none, op := _, type := _, pos := _, after := _, guard := _ }) rfl (fun K hK => ?_) AllReadyH.nil
  refine step_store_row (by rfl) (.tmp 8) (.tmp 30) 29 (by rfl) (by rfl) (by rfl) hst.out ?_
  refine hK.out _ _ ?_ (fun hH8 => ?_)
  · exact kE6.out
  clear hK K hH7
  simp only [Act.put]
  refine wpAnyH_take (i := 9) (oi := { dst := some 9, op := _, type := _, pos := _, after := _, guard := _ }) (v := ?_) rfl (by kernel_rfl) (by kernel_rfl) (by kernel_rfl) (fun _ _ _ h => h) (Or.inl ⟨by rfl, ?_⟩) (by assumption) ?_
  rotate_left
  · (intro w hSw; clear hSw; go_simp); (try with_reducible rfl)
  simp only [Act.put, List.setIfInBounds_toArray, List.set_cons_zero, List.set_cons_succ]
  refine wpAnyH_take (i := 10) (oi := { dst := some 10, op := _, type := _, pos := _, after := _, guard := _ }) (v := ?_) rfl (by kernel_rfl) (by kernel_rfl) (by kernel_rfl) (fun _ _ _ h => h) (Or.inl ⟨by rfl, ?_⟩) (by assumption) ?_
  rotate_left
  · (intro w hSw; clear hSw; go_simp); (try with_reducible rfl)
  simp only [Act.put, List.setIfInBounds_toArray, List.set_cons_zero, List.set_cons_succ]
  refine wpAnyH_done (by kernel_rfl) ?_ _
  have hfin : DR Kp w6 d1 p1 := hE.out.rest hqr.out hK.out kR3.out hRe.out (fun k hk h1 h2 h3 _ => by rw [oR6.block k h2]; exact hb5.out.2 k hk h3) (hb5.out.1.trans (oR6.bel hRw.out))
  have hbel : Below w.heap.size w w6 := (hb4.out.trans hb5.out.1).trans (oR6.bel hRw.out)
  have hres : (loadVar 29 ⟨R, 0, none⟩).run Tryz.prog w6 = .ok (DV d1 p1) w6 := Rg.row_loadVar (P := Tryz.prog) (t := 29) (CS := (DC d1 p1).toArray) kR6 Tryz.underlying29 rfl infoDr2
  have hfe : GBPost Kp w d1 so (.returned (.tuple #[DV d1 p1, .string ⟨so.toArray⟩, .int .i64 0])) w6 := ⟨p1, rfl, hfin, hbel⟩
  clear hfin hbel hE HStr hb5 kE5 kR5 oR6 kE6 kR6 hst hb4 kR3 hH8
  go_wp2
  exact bodyPost_ret (v := .tuple #[DV d1 p1, .string ⟨so.toArray⟩, .int .i64 0]) (results_row3 rfl rfl rfl rfl hres) rfl hfe
end Go.Proofs.YtfiffbohhhehkaaGreat

namespace Go.Proofs.YtfiffbohhhehkaaGreat
open Go.RowKit
/-- a drive, by its cells -/
def DH (Kp : Nat → Prop) (W : World) (d : Gp.Dr) (CS : Array Value) : Prop := ∃ p, CS = (DC d p).toArray ∧ DR Kp W d p
theorem DH.below {Kp : Nat → Prop} {W W' : World} {d : Gp.Dr} {CS : Array Value} (h : DH Kp W d CS) (hb : Below W.heap.size W W') : DH Kp W' d CS := by
  obtain ⟨p, e, h⟩ := h
  exact ⟨p, e, h.below hb⟩
theorem DH.info {Kp : Nat → Prop} {W : World} {d : Gp.Dr} {CS : Array Value} (h : DH Kp W d CS) : (Tryz.prog.info? 29).map (·.size) = some CS.size := by
  obtain ⟨p, e, _⟩ := h
  rw [e]
  exact infoDr2
theorem DH.size {Kp : Nat → Prop} {W : World} {d : Gp.Dr} {CS : Array Value} (h : DH Kp W d CS) : CS.size = 18 := by
  obtain ⟨p, e, _⟩ := h
  rw [e]
  rfl
theorem DH.one {Kp : Nat → Prop} {W : World} {d : Gp.Dr} {CS : Array Value} (h : DH Kp W d CS) : CS.all (·.oneCell') = true := by
  obtain ⟨p, e, _⟩ := h
  rw [e]
  simp [DC, Value.oneCell']
/-- a drive without lists, whatever is told of old blocks -/
theorem DH.any {Kp Kq : Nat → Prop} {W : World} {d : Gp.Dr} {CS : Array Value} (h : DH Kp W d CS) (h1 : d.win.l = []) (h2 : d.ahead = []) (h3 : d.queue = []) (h4 : d.took = []) : DH Kq W d CS := by
  obtain ⟨p, e, h⟩ := h
  exact ⟨p, e, h.at_, h.wcap, h.ql, .inl h1, .inl h2, .inl h3, .inl h4⟩
theorem erow_only {Kp : Nat → Prop} {α : Type} {E : Rg.El α} {B : Nat} {W W' : World} {a : Option Addr} {l : List α} (h : ERow E W a l) (k : KRow Kp a l) (hn : ¬ Kp B) (o : Rg.Only B W W') : ERow E W' a l := by
  rcases h with h | ⟨b, i, h1, h2, h3⟩
  · exact .inl h
  · rcases k with k | ⟨b', i', k1, k2⟩
    · exact .inl k
    · rw [h1] at k1
      cases k1
      exact .inr ⟨b, i, h1, by rw [o.size]; exact h2, h3.same (o.block b (fun e => hn (e ▸ k2)))⟩
theorem DH.only {Kp : Nat → Prop} {B : Nat} {W W' : World} {d : Gp.Dr} {CS : Array Value} (h : DH Kp W d CS) (hn : ¬ Kp B) (o : Rg.Only B W W') : DH Kp W' d CS := by
  obtain ⟨p, e, h⟩ := h
  exact ⟨p, e, ⟨erow_only h.at_.win h.kw hn o, erow_only h.at_.ahead h.ka hn o, erow_only h.at_.queue h.kq hn o, erow_only h.at_.took h.kt hn o⟩, h.wcap, h.ql, h.kw, h.ka, h.kq, h.kt⟩
/-- a drive's block -/
theorem DH.load {Kp : Nat → Prop} {W W2 : World} {B : Nat} {d : Gp.Dr} {CS : Array Value} (h : DH Kp W d CS) (k : Rg.Bk B CS.toList 29 W2) : (loadVar 29 ⟨B, 0, none⟩).run Tryz.prog W2 = .ok (.agg CS) W2 := Rg.row_loadVar (P := Tryz.prog) (t := 29) (CS := CS) k Tryz.underlying29 rfl h.info
/-- a new block for a drive -/
theorem DH.box {Kp : Nat → Prop} {W : World} {d : Gp.Dr} {CS : Array Value} (h : DH Kp W d CS) : ∃ W', Hid ((storeVar 29 ⟨W.heap.size, 0, none⟩ (.agg CS)).run Tryz.prog (W.alloc (.cells #[.int .i64 0, .int .i64 0, .bool false, .int .i64 0, .int .i64 0, .int .i64 0, .int .i64 0, .int .i64 0, .int .i64 0, .slice none 0 0, .int .i64 0, .slice none 0 0, .string ⟨#[]⟩, .int .i64 0, .slice none 0 0, .int .i64 0, .int .i64 0, .slice none 0 0] 29)) = .ok () W') ∧ Hid (Rg.Bk W.heap.size CS.toList 29 W') ∧ Hid (Below W.heap.size W W') ∧ Hid (DH Kp W' d CS) := by
  have k : Rg.Bk W.heap.size [.int .i64 0, .int .i64 0, .bool false, .int .i64 0, .int .i64 0, .int .i64 0, .int .i64 0, .int .i64 0, .int .i64 0, .slice none 0 0, .int .i64 0, .slice none 0 0, .string ⟨#[]⟩, .int .i64 0, .slice none 0 0, .int .i64 0, .int .i64 0, .slice none 0 0] 29 (W.alloc (.cells #[.int .i64 0, .int .i64 0, .bool false, .int .i64 0, .int .i64 0, .int .i64 0, .int .i64 0, .int .i64 0, .int .i64 0, .slice none 0 0, .int .i64 0, .slice none 0 0, .string ⟨#[]⟩, .int .i64 0, .slice none 0 0, .int .i64 0, .int .i64 0, .slice none 0 0] 29)) := Rg.Bk.new rfl
  obtain ⟨W', h1, h2, h3⟩ := Rg.row_storeVar (P := Tryz.prog) (t := 29) (CS := CS) k h.info (by rw [h.size]; rfl) h.one
  have hb : Below W.heap.size W W' := (Rg.al1 _ _).trans (h3.bel (Nat.le_refl _))
  exact ⟨W', h1, h2, hb, h.below hb⟩
/-- a drive laid over another one -/
theorem DH.over {Kp Kq : Nat → Prop} {W W0 : World} {B : Nat} {d d0 : Gp.Dr} {CS C0 : Array Value} (h : DH Kp W d CS) (h0 : DH Kq W0 d0 C0) (k : Rg.Bk B C0.toList 29 W) : ∃ W', Hid ((storeVar 29 ⟨B, 0, none⟩ (.agg CS)).run Tryz.prog W = .ok () W') ∧ Hid (Rg.Bk B CS.toList 29 W') ∧ Hid (Rg.Only B W W') := by
  obtain ⟨W', h1, h2, h3⟩ := Rg.row_storeVar (P := Tryz.prog) (t := 29) (CS := CS) k h.info (by rw [h.size, Array.length_toList, h0.size]) h.one
  exact ⟨W', h1, h2, h3⟩
/-- what a call that says something leaves -/
def HPost (Kp : Nat → Prop) (w : World) (r : Gp.Dr × List UInt8) (e : Ending) (w' : World) : Prop := ∃ CS, e = .returned (.tuple #[.agg CS, .string ⟨r.2.toArray⟩]) ∧ Hid (DH Kp w' r.1 CS) ∧ Hid (Below w.heap.size w w')
theorem hpost {Kp : Nat → Prop} {w : World} {r : Gp.Dr × List UInt8} {e : Ending} {w' : World} (h : XPost Kp w r e w') : HPost Kp w r e w' := by
  obtain ⟨p, h1, h2, h3⟩ := h
  exact ⟨_, h1, ⟨p, rfl, h2⟩, h3⟩
theorem htick {Kp : Nat → Prop} {w : World} {d : Gp.Dr} {CS : Array Value} (h : DH Kp w d CS) (hr : Gp.right d) (hm : d.at_ + d.buf.length ≤ 1099511627776) (hK : ∀ b, w.heap.size ≤ b → Kp b) : Calls Tryz.prog 14 #[.agg CS] w fun e w' => HPost Kp w (Gp.tick d) e w' := by
  obtain ⟨p, rfl, h⟩ := h
  exact (gtick_any d p w h hr hm hK).mono fun e w' => hpost
theorem hclose {Kp : Nat → Prop} {w : World} {d : Gp.Dr} {CS : Array Value} (h : DH Kp w d CS) (hr : Gp.right d) (hK : ∀ b, w.heap.size ≤ b → Kp b) : Calls Tryz.prog 19 #[.agg CS] w fun e w' => HPost Kp w (Gp.close d) e w' := by
  obtain ⟨p, rfl, h⟩ := h
  exact (gclose_any d p w h hr hK).mono fun e w' => hpost
theorem hsend {Kp : Nat → Prop} {w : World} {d : Gp.Dr} {CS : Array Value} (h : DH Kp w d CS) (hr : Gp.right d) (x : Gp.Pc) (hq : d.queue.length ≤ 1000) (hK : ∀ b, w.heap.size ≤ b → Kp b) : Calls Tryz.prog 17 #[.agg CS, .agg #[.int .i64 x.ch, .string x.data]] w fun e w' => HPost Kp w (Gp.send d x) e w' := by
  obtain ⟨p, rfl, h⟩ := h
  exact (gsend_any d p x w h hr hq hK).mono fun e w' => hpost
/-- what Begin leaves -/
def HBPost (Kp : Nat → Prop) (w : World) (d : Gp.Dr) (s : List UInt8) (e : Ending) (w' : World) : Prop := ∃ CS, e = .returned (.tuple #[.agg CS, .string ⟨s.toArray⟩, .int .i64 0]) ∧ Hid (DH Kp w' d CS) ∧ Hid (Below w.heap.size w w')
theorem hbegin (Kp : Nat → Prop) (lt : Int) (ca : Bool) (z ro : Int) (w : World) (h1 : lt = 103 ∨ lt = 71) (h2 : Gf.code z ≠ 0) (h3 : lt = 103 → z ≤ 64) (h4 : 1 ≤ ro) (h5 : ro ≤ 7) : Calls Tryz.prog 7 #[.int .i64 lt, .bool ca, .int .i64 z, .int .i64 ro] w fun e w' => HBPost Kp w (Gp.begin_ lt ca z ro) (Gp.opening (Gp.begin_ lt ca z ro) 0) e w' := by
  refine (gbegin_yes (Kp := fun _ => True) lt ca z ro w h1 h2 h3 h4 h5 (fun _ _ => trivial)).mono fun e w' ⟨p, h1, h2, h3⟩ => ⟨_, h1, ?_, h3⟩
  exact DH.any (Kp := fun _ => True) ⟨p, rfl, h2⟩ rfl rfl rfl rfl
/-- the bytes of pieces -/
def cats (l : List Gp.Pc) : List UInt8 := l.flatMap fun x => x.data.data.toList
/-- what Feed leaves: its pieces too -/
def HFPost (Kp : Nat → Prop) (w : World) (r : Gp.Dr × List UInt8 × List UInt8) (e : Ending) (w' : World) : Prop := ∃ CS a l, e = .returned (.tuple #[.agg CS, .string ⟨r.2.1.toArray⟩, .slice a l.length l.length]) ∧ Hid (DH Kp w' r.1 CS) ∧ Hid (Below w.heap.size w w') ∧ Hid (l.length ≤ 1 ∧ cats l = r.2.2 ∧ ERow pcE w' a l ∧ KRow Kp a l)
theorem hfeed {Kp : Nat → Prop} {w : World} {d : Gp.Dr} {CS : Array Value} (h : DH Kp w d CS) (hr : Gp.right d) (s : List UInt8) (hm : d.at_ + d.buf.length + s.length ≤ 1099511627776) (hl : d.buf.length + s.length ≤ 40000) (hK : ∀ b, w.heap.size ≤ b → Kp b) : Calls Tryz.prog 12 #[.agg CS, .string ⟨s.toArray⟩] w fun e w' => HFPost Kp w (Gp.feed d s) e w' := by
  obtain ⟨p, rfl, h⟩ := h
  refine (gfeed_any d p s w h hr hm hl hK).mono fun e w' ⟨p', v, h1, h2, h3, h4⟩ => ?_
  rcases h4 with ⟨e0, rfl⟩ | ⟨g, e0, rfl, hg, k⟩
  · exact ⟨_, none, [], h1, ⟨p', rfl, h2⟩, h3, Nat.zero_le _, e0.symm, .inl rfl, .inl rfl⟩
  · refine ⟨_, some ⟨g, 0, none⟩, [⟨0, ⟨(Gp.feed d s).2.2.toArray⟩⟩], h1, ⟨p', rfl, h2⟩, h3, Nat.le_refl _, by simp [cats], .inr ⟨g, 0, rfl, k.lt, fun t u ht => ?_⟩, .inr ⟨g, 0, rfl, hK g hg⟩⟩
    rw [k.cell]
    rw [← ht]
    simp [pcE, Rg.El.flat]
end Go.Proofs.YtfiffbohhhehkaaGreat
