/-
  Layer 18: Jobs, Failed, next, Load of the program.
-/
import Derived.Test.YtmilfamjkiemaaaGreatDoorSzBC
import Derived.Test.YtmilfamjkiemaaaGreatDoorSzBD
namespace Go.Proofs.YtmilfamjkiemaaaGreatDoor
open Go.RowKit
set_option maxHeartbeats 2000000 in
set_option maxRecDepth 100000 in
theorem jobs_any (v : Value) (d : Dsk.Dk) (sys : ByteArray) (w : World) (hd : Dsk.Ok d) (hm : Mild (Dsk.files d)) (h : DAt w v d) (hw : Ok w) :
    Calls Tryz.prog 22 #[v, .string sys] w fun e w' => GthPost (Dsk.files d) 67 sys w e w' := by
  obtain ⟨CS, rfl⟩ := h.agg
  have HG : Hid (∀ W, Below w.heap.size w W → DAt W (.agg CS) d → Calls Tryz.prog 59 #[.agg CS, .int .i64 67, .string sys] W fun e w' => GthPost (Dsk.files d) 67 sys W e w') := fun W hW hv => gather_any _ d 67 sys W hd hm hv (hw.below hW)
  have kB : Hid (DB w.heap.size CS d (w.alloc (.cells CS 28))) := DB.new h
  have hb := Rg.hid (Rg.al1 w (.cells CS 28))
  clear hd hm hw h
  go_enter Tryz.func22, Tryz.ntmps22
  go_upto_region 1 with fail
  generalize World.alloc _ _ = w1 at *
  obtain ⟨B, hB⟩ : ∃ B, B = w.heap.size := ⟨_, rfl⟩
  rw [← hB] at kB ⊢
  clear hB
  have hl1 := Rg.hid kB.out.ld
  go_wp2_with (first | (with_reducible refine Rg.isld (.tmp 2) 28 ?_; refine Rg.lld (.tmp 2) 28 rfl hl1.out ?_) | (go_at_call 59; refine (HG.out _ hb.out kB.out.dt).mono ?_; rintro e w2 ⟨a, c, L, rfl, hr, hrow, b2, hnew⟩))
  go_ret
  exact ⟨a, c, L, rfl, hr, hrow, Rg.chain hb.out b2.out, Rg.hid (fun b o s e => Nat.le_trans hb.out.size (hnew.out b o s e))⟩
theorem read_rd (d : Dsk.Dk) (n : ByteArray) : (Dsk.read d n).1 = Spl.rd (Dsk.files d) n := by
  unfold Dsk.read Spl.rd
  cases h : d.down
  · rw [if_neg (by simp)]
    cases Dsk.get (Dsk.files d) n <;> rfl
  · rw [if_pos rfl]
    unfold Dsk.files
    rw [h, if_pos rfl]
    rfl
set_option maxHeartbeats 2000000 in
set_option maxRecDepth 100000 in
theorem next_core (CS : Array Value) (d : Dsk.Dk) (w : World) (T : ByteArray) (E k E2 r : Int) (h : DAt w (.agg CS) d)
    (HR : Hid (∀ W, Below w.heap.size w W → DAt W (.agg CS) d → Calls Tryz.prog 85 #[.agg CS, .string ⟨#[78]⟩] W fun e w' => e = .returned (.tuple #[.string T, .int .i64 E]) ∧ Below W.heap.size W w'))
    (HN : Hid (∀ W, Calls Tryz.prog 86 #[.string T] W fun e w' => e = .returned (.tuple #[.int .i64 k, .int .i64 E2]) ∧ w' = W))
    (hr : Hid (r = if E2 = 0 ∧ 1 ≤ k then k else 1)) :
    Calls Tryz.prog 46 #[.agg CS] w fun e w' => e = .returned (.int .i64 r) ∧ Below w.heap.size w w' := by
  have kB : Hid (DB w.heap.size CS d (w.alloc (.cells CS 28))) := DB.new h
  have hb := Rg.hid (Rg.al1 w (.cells CS 28))
  clear h
  go_enter Tryz.func46, Tryz.ntmps46
  go_upto_region 1 with fail
  generalize World.alloc _ _ = w1 at *
  obtain ⟨B, hB⟩ : ∃ B, B = w.heap.size := ⟨_, rfl⟩
  rw [← hB] at kB ⊢
  clear hB
  have hl1 := Rg.hid kB.out.ld
  go_upto_region 3 with (first | (with_reducible refine Rg.isld (.tmp 1) 28 ?_; refine Rg.lld (.tmp 1) 28 rfl hl1.out ?_) | (go_at_call 85; refine (HR.out _ hb.out kB.out.dt).mono ?_; rintro e w2 ⟨rfl, b2⟩) | (go_at_call 86; refine (HN.out _).mono ?_; rintro e w3 ⟨rfl, rfl⟩))
  have hb2 := Rg.chain hb.out b2
  clear HR HN hb b2 kB hl1
  by_cases hE : E2 = 0
  rotate_left
  · have e0 : (E2 != 0) = true := by rw [bne_iff_ne]; exact hE
    have hrr : Hid (r = 1) := by show _ = _; rw [hr.out, if_neg (fun q => hE q.1)]
    clear hr
    go_wp2
    go_ret
    exact ⟨ret_int hrr.out.symm, hb2⟩
  · subst hE
    by_cases h1 : k < 1
    · have hrr : Hid (r = 1) := by show _ = _; rw [hr.out, if_neg (by omega)]
      have d1 : decide (k < 1) = true := by simp [h1]
      clear hr
      go_wp2
      go_ret
      exact ⟨ret_int hrr.out.symm, hb2⟩
    · have hrr : Hid (r = k) := by show _ = _; rw [hr.out, if_pos ⟨rfl, by omega⟩]
      have d1 : decide (k < 1) = false := by simpa using h1
      clear hr
      go_wp2
      go_ret
      exact ⟨ret_int hrr.out.symm, hb2⟩
theorem next_any (v : Value) (d : Dsk.Dk) (w : World) (hd : Dsk.Ok d) (hm : Mild (Dsk.files d)) (h : DAt w v d) :
    Calls Tryz.prog 46 #[v] w fun e w' => e = .returned (.int .i64 (Spl.next (Dsk.files d))) ∧ Below w.heap.size w w' := by
  obtain ⟨CS, rfl⟩ := h.agg
  refine next_core CS d w (Spl.rd (Dsk.files d) Spl.numF) (Dsk.read d Spl.numF).2 (Oct.number (Spl.rd (Dsk.files d) Spl.numF).data.toList).1 (Oct.number (Spl.rd (Dsk.files d) Spl.numF).data.toList).2 _ h (fun W hW hv => ?_) (fun W => number_any _ W (by have := hm.rd Spl.numF; unfold maxLen; omega)) ?_
  · exact (read_any _ d Spl.numF W hd hv).mono fun e w' ⟨h1, h2⟩ => ⟨by rw [h1, read_rd], h2⟩
  · show _ = _
    unfold Spl.next
    have e : ∀ a b : Nat, (a = 0 ∧ 1 ≤ b) ↔ ((a : Int) = 0 ∧ (1 : Int) ≤ (b : Int)) := fun a b => by omega
    simp only [e]
theorem boxDH (w : World) (CS : Array Value) (d : Dsk.Dk) (hd : DAt w (.agg CS) d) (L1 : List Value) (t1 : TypeId) :
    Hid (DB w.heap.size CS d (((w.alloc (.cells CS 28)).alloc (.cells L1.toArray t1)).alloc (.cells #[.string ⟨#[]⟩, .int .i64 0, .int .i64 0, .int .i64 0, .string ⟨#[]⟩, .string ⟨#[]⟩, .string ⟨#[]⟩, .string ⟨#[]⟩, .int .i64 0, .string ⟨#[]⟩] 42))) ∧
    Hid (Rg.Bk (w.heap.size + 1) L1 t1 (((w.alloc (.cells CS 28)).alloc (.cells L1.toArray t1)).alloc (.cells #[.string ⟨#[]⟩, .int .i64 0, .int .i64 0, .int .i64 0, .string ⟨#[]⟩, .string ⟨#[]⟩, .string ⟨#[]⟩, .string ⟨#[]⟩, .int .i64 0, .string ⟨#[]⟩] 42))) ∧
    Hid (Rg.Bk (w.heap.size + 2) [.string ⟨#[]⟩, .int .i64 0, .int .i64 0, .int .i64 0, .string ⟨#[]⟩, .string ⟨#[]⟩, .string ⟨#[]⟩, .string ⟨#[]⟩, .int .i64 0, .string ⟨#[]⟩] 42 (((w.alloc (.cells CS 28)).alloc (.cells L1.toArray t1)).alloc (.cells #[.string ⟨#[]⟩, .int .i64 0, .int .i64 0, .int .i64 0, .string ⟨#[]⟩, .string ⟨#[]⟩, .string ⟨#[]⟩, .string ⟨#[]⟩, .int .i64 0, .string ⟨#[]⟩] 42))) ∧
    Hid (Below w.heap.size w (((w.alloc (.cells CS 28)).alloc (.cells L1.toArray t1)).alloc (.cells #[.string ⟨#[]⟩, .int .i64 0, .int .i64 0, .int .i64 0, .string ⟨#[]⟩, .string ⟨#[]⟩, .string ⟨#[]⟩, .string ⟨#[]⟩, .int .i64 0, .string ⟨#[]⟩] 42))) :=
  ⟨((DB.new hd).old _).old _, (Rg.Bk.new (by simp)).old _, Rg.Bk.new (by simp), Rg.al3 w _ _ _⟩
/-- what Load answers -/
def LPost (r : Spl.Hd × Int) (w : World) (e : Ending) (w' : World) : Prop := e = .returned (.tuple #[.agg (hc r.1).toArray, .int .i64 r.2]) ∧ Below w.heap.size w w'
set_option maxHeartbeats 2000000 in
set_option maxRecDepth 100000 in
theorem load_core (s : ByteArray) (g n : Int) (CS : Array Value) (d : Dsk.Dk) (l : List Dsk.Fl) (N : Nat) (oh : Option Spl.Hd) (w : World) (hd : DAt w (.agg CS) d)
    (HF : Hid (∀ W, Below w.heap.size w W → DAt W (.agg CS) d → Calls Tryz.prog 44 #[.agg CS] W fun e w' => ∃ a c, e = .returned (.slice a N c) ∧ Hid (fileE.Row w' a l) ∧ Hid (Below W.heap.size W w')))
    (HH : Hid (∀ W a c, Below w.heap.size w W → fileE.Row W a l → Calls Tryz.prog 43 #[.slice a N c, .int .i64 67, .string s, .agg #[.int .i64 g, .int .i64 n]] W fun e w' => HPost oh W e w'))
    (r : Spl.Hd × Int) (hr : Hid (r = if d.down = true then (Spl.Hd.zero, 9) else (oh.getD Spl.Hd.zero, if oh.isSome = true then 0 else 6))) :
    Calls Tryz.prog 16 #[.agg CS, .string s, .agg #[.int .i64 g, .int .i64 n]] w fun e w' => LPost r w e w' := by
  obtain ⟨kB, kI, kR, hb⟩ := boxDH w CS d hd [.int .i64 g, .int .i64 n] 31
  clear hd
  unfold HPost at HH
  go_enter Tryz.func16, Tryz.ntmps16
  go_upto_region 1 with fail
  generalize World.alloc _ _ = w1 at *
  obtain ⟨B, hB⟩ : ∃ B, B = w.heap.size := ⟨_, rfl⟩
  obtain ⟨I, hI⟩ : ∃ I, I = w.heap.size + 1 := ⟨_, rfl⟩
  obtain ⟨R, hR⟩ : ∃ R, R = w.heap.size + 2 := ⟨_, rfl⟩
  rw [← hR] at kR ⊢
  rw [← hI] at kI ⊢
  rw [← hB] at kB ⊢
  have hBw : Hid (w.heap.size ≤ B) := by show _ ≤ _; omega
  have nBI : B ≠ I := by omega
  have nBR : B ≠ R := by omega
  have hIw : Hid (w.heap.size ≤ I) := by show _ ≤ _; omega
  have nIR : I ≠ R := by omega
  have hRw : Hid (w.heap.size ≤ R) := by show _ ≤ _; omega
  clear hB hI hR
  have c4 := kB.out.down
  cases hdn : d.down
  rotate_left
  · rw [hdn] at c4
    have hrr : Hid (r = (Spl.Hd.zero, 9)) := by show _ = _; rw [hr.out, if_pos hdn]
    obtain ⟨w2, st2, k2, o2⟩ := hst kR.out rfl Spl.Hd.zero
    clear HF HH hr hdn
    go_wp2_with (with_reducible refine Rg.isst (.tmp 6) (.tmp 12) 42 ?_; refine Rg.lst (.tmp 6) (.tmp 12) 42 rfl rfl st2 ?_)
    exact bodyPost_ret (v := .tuple #[.agg (hc Spl.Hd.zero).toArray, .int .i64 9]) (Rg.res2 rfl rfl rfl (hld k2)) rfl (show LPost r w _ w2 by rw [hrr.out]; exact ⟨rfl, hb.out.trans (o2.bel hRw.out)⟩)
  rw [hdn] at c4
  have hrr : Hid (r = (oh.getD Spl.Hd.zero, if oh.isSome = true then 0 else 6)) := by show _ = _; rw [hr.out, if_neg (by rw [hdn]; simp)]
  clear hr hdn
  go_upto_region 3 with fail
  clear c4
  go_cut [8, 9] (fun s8 s9 wx => ∃ H, s8 = .pointer (some ⟨H, 0, none⟩) ∧ s9 = .bool oh.isSome ∧ Hid (Rg.Bk H (hc (oh.getD Spl.Hd.zero)) 42 wx) ∧ Hid (Rg.Bk R [.string ⟨#[]⟩, .int .i64 0, .int .i64 0, .int .i64 0, .string ⟨#[]⟩, .string ⟨#[]⟩, .string ⟨#[]⟩, .string ⟨#[]⟩, .int .i64 0, .string ⟨#[]⟩] 42 wx) ∧ Hid (Below w.heap.size w wx))
  case first =>
    refine Rg.beginL (fun (w' : World) => DB B CS d w' ∧ Rg.Bk I [.int .i64 g, .int .i64 n] 31 w') [7, 9, 10] (by kernel_rfl) ?_ (fun hH0 => ?_)
    · exact ⟨kB.out.drew, kI.out.drew⟩
    refine Rg.tlv 0 (some 14) (.agg CS) (fun w hSw => Rg.xload _ _ rfl rfl (hSw.1.ld)) ?_
    refine Rg.tlq 2 (some 16) ?_
    refine Rg.tlv 3 (some 17) (.agg #[.int .i64 g, .int .i64 n]) (fun w hSw => Rg.xload _ _ rfl rfl (idld hSw.2)) ?_
    refine Rg.AnyL.two 1 8 (o := { dst := some 15, op := _, type := _, pos := _, after := _, guard := _ }) (p := { dst := some 8, op := _, type := _, pos := _, after := _, guard := _ }) (by decide) (by decide) (fun K hK => ?_) (fun K hK => ?_)
    · go_simp; go_at_call 44; refine (HF.out _ hb.out.drew kB.out.drew.dt).mono ?_; rintro e w2 ⟨fa, fc, rfl, hrow, bf⟩; have kB2 := Rg.hid (kB.out.drew.below bf.out); have kI2 := Rg.hid (kI.out.drew.below bf.out kI.out.lt); have kR2 := Rg.hid (kR.out.drew.below bf.out kR.out.lt); have hb2 := Rg.hid (Rg.chain hb.out.drew bf.out)
      refine hK.out _ _ ?_ (fun hH1 => ?_)
      · exact ⟨kB2.out, kI2.out⟩
      clear hK K hH0
      try simp only [Act.put]
      have hrow2 := hrow
      clear kB kI kR hb bf hrow
      refine Rg.AnyL.two 4 8 (o := { dst := some 18, op := _, type := _, pos := _, after := _, guard := _ }) (p := { dst := some 8, op := _, type := _, pos := _, after := _, guard := _ }) (by decide) (by decide) (fun K hK => ?_) (fun K hK => ?_)
      · go_simp; go_at_call 43; refine (HH.out _ _ _ hb2.out hrow2.out).mono ?_; rintro e w3 ⟨rfl, bh⟩; have kB3 := Rg.hid (kB2.out.below bh); have kI3 := Rg.hid (kI2.out.below bh kI2.out.lt); have kR3 := Rg.hid (kR2.out.below bh kR2.out.lt); have hb3 := Rg.hid (Rg.chain hb2.out bh)
        refine hK.out _ _ ?_ (fun hH2 => ?_)
        · exact ⟨kB3.out, kI3.out⟩
        clear hK K hH1
        try simp only [Act.put]
        clear kB2 kI2 kR2 hb2 bh hrow2
        have hHw : Hid (w.heap.size ≤ w3.heap.size) := by show _ ≤ _; exact hb3.out.size
        have nHB : Hid (R ≠ w3.heap.size) := Nat.ne_of_lt kR3.out.lt
        refine Rg.tlq 5 (some 13) ?_
        refine Rg.tlp 7 (some 20) ?_
        refine Rg.tlq 6 (some 19) ?_
        refine Rg.AnyL.one 8 (o := { dst := some 8, op := _, type := _, pos := _, after := _, guard := _ }) (by decide) (fun K hK => ?_)
        go_simp; have bl := Rg.al1 w3 (.cells #[.string ⟨#[]⟩, .int .i64 0, .int .i64 0, .int .i64 0, .string ⟨#[]⟩, .string ⟨#[]⟩, .string ⟨#[]⟩, .string ⟨#[]⟩, .int .i64 0, .string ⟨#[]⟩] 42); have kA4 : Hid (Rg.Bk w3.heap.size [.string ⟨#[]⟩, .int .i64 0, .int .i64 0, .int .i64 0, .string ⟨#[]⟩, .string ⟨#[]⟩, .string ⟨#[]⟩, .string ⟨#[]⟩, .int .i64 0, .string ⟨#[]⟩] 42 (w3.alloc (.cells #[.string ⟨#[]⟩, .int .i64 0, .int .i64 0, .int .i64 0, .string ⟨#[]⟩, .string ⟨#[]⟩, .string ⟨#[]⟩, .string ⟨#[]⟩, .int .i64 0, .string ⟨#[]⟩] 42))) := Rg.Bk.new rfl; have kB4 := Rg.hid (kB3.out.below bl); have kI4 := Rg.hid (kI3.out.below bl kI3.out.lt); have kR4 := Rg.hid (kR3.out.below bl kR3.out.lt); have hb4 := Rg.hid (Rg.chain hb3.out bl)
        refine hK.out _ _ ?_ (fun hH3 => ?_)
        · exact ⟨kB4.out, kI4.out⟩
        clear hK K hH2
        try simp only [Act.put]
        obtain ⟨wS, stS, kS, oS⟩ := hst kA4.out rfl (oh.getD Spl.Hd.zero)
        refine Rg.AnyL.last 9 (o := { dst := none, op := _, type := _, pos := _, after := _, guard := _ }) (by decide) (fun K hK => ?_)
        refine Rg.xstore rfl _ _ _ rfl rfl rfl stS ?_
        refine hK.out _ _ ?_
        clear hK K hH3
        try simp only [Act.put]
        refine Rg.tlp 10 (some 9) ?_
        refine Rg.AnyL.done ?_
        go_wp2_with fail
        go_meet
        exact ⟨_, rfl, rfl, kS, kR4.out.same (oS.block R nHB.out), hb4.out.trans (oS.bel hHw.out)⟩
      · have hHw : Hid (w.heap.size ≤ w2.heap.size) := by show _ ≤ _; exact hb2.out.size
        have nHB : Hid (R ≠ w2.heap.size) := Nat.ne_of_lt kR2.out.lt
        go_simp; have bl := Rg.al1 w2 (.cells #[.string ⟨#[]⟩, .int .i64 0, .int .i64 0, .int .i64 0, .string ⟨#[]⟩, .string ⟨#[]⟩, .string ⟨#[]⟩, .string ⟨#[]⟩, .int .i64 0, .string ⟨#[]⟩] 42); have kA3 : Hid (Rg.Bk w2.heap.size [.string ⟨#[]⟩, .int .i64 0, .int .i64 0, .int .i64 0, .string ⟨#[]⟩, .string ⟨#[]⟩, .string ⟨#[]⟩, .string ⟨#[]⟩, .int .i64 0, .string ⟨#[]⟩] 42 (w2.alloc (.cells #[.string ⟨#[]⟩, .int .i64 0, .int .i64 0, .int .i64 0, .string ⟨#[]⟩, .string ⟨#[]⟩, .string ⟨#[]⟩, .string ⟨#[]⟩, .int .i64 0, .string ⟨#[]⟩] 42))) := Rg.Bk.new rfl; have kB3 := Rg.hid (kB2.out.below bl); have kI3 := Rg.hid (kI2.out.below bl kI2.out.lt); have kR3 := Rg.hid (kR2.out.below bl kR2.out.lt); have hb3 := Rg.hid (Rg.chain hb2.out bl); have hrow3 := Rg.hid (hrow2.out.below bl)
        refine hK.out _ _ ?_ (fun hH2 => ?_)
        · exact ⟨kB3.out, kI3.out⟩
        clear hK K hH1
        try simp only [Act.put]
        clear kB2 kI2 kR2 hb2 hrow2
        refine Rg.AnyL.one 4 (o := { dst := some 18, op := _, type := _, pos := _, after := _, guard := _ }) (by decide) (fun K hK => ?_)
        go_simp; go_at_call 43; refine (HH.out _ _ _ hb3.out hrow3.out).mono ?_; rintro e w3 ⟨rfl, bh⟩; have kB4 := Rg.hid (kB3.out.below bh); have kI4 := Rg.hid (kI3.out.below bh kI3.out.lt); have kR4 := Rg.hid (kR3.out.below bh kR3.out.lt); have hb4 := Rg.hid (Rg.chain hb3.out bh); have kA4 := Rg.hid (kA3.out.below bh kA3.out.lt)
        refine hK.out _ _ ?_ (fun hH3 => ?_)
        · exact ⟨kB4.out, kI4.out⟩
        clear hK K hH2
        try simp only [Act.put]
        refine Rg.tlq 5 (some 13) ?_
        refine Rg.tlp 7 (some 20) ?_
        refine Rg.tlq 6 (some 19) ?_
        obtain ⟨wS, stS, kS, oS⟩ := hst kA4.out rfl (oh.getD Spl.Hd.zero)
        refine Rg.AnyL.last 9 (o := { dst := none, op := _, type := _, pos := _, after := _, guard := _ }) (by decide) (fun K hK => ?_)
        refine Rg.xstore rfl _ _ _ rfl rfl rfl stS ?_
        refine hK.out _ _ ?_
        clear hK K hH3
        try simp only [Act.put]
        refine Rg.tlp 10 (some 9) ?_
        refine Rg.AnyL.done ?_
        go_wp2_with fail
        go_meet
        exact ⟨_, rfl, rfl, kS, kR4.out.same (oS.block R nHB.out), hb4.out.trans (oS.bel hHw.out)⟩
    · have hHw : Hid (w.heap.size ≤ w1.heap.size) := by show _ ≤ _; exact hb.out.size
      have nHB : Hid (R ≠ w1.heap.size) := Nat.ne_of_lt kR.out.lt
      go_simp; have bl := Rg.al1 w1.drew (.cells #[.string ⟨#[]⟩, .int .i64 0, .int .i64 0, .int .i64 0, .string ⟨#[]⟩, .string ⟨#[]⟩, .string ⟨#[]⟩, .string ⟨#[]⟩, .int .i64 0, .string ⟨#[]⟩] 42); have kA2 : Hid (Rg.Bk w1.heap.size [.string ⟨#[]⟩, .int .i64 0, .int .i64 0, .int .i64 0, .string ⟨#[]⟩, .string ⟨#[]⟩, .string ⟨#[]⟩, .string ⟨#[]⟩, .int .i64 0, .string ⟨#[]⟩] 42 (w1.drew.alloc (.cells #[.string ⟨#[]⟩, .int .i64 0, .int .i64 0, .int .i64 0, .string ⟨#[]⟩, .string ⟨#[]⟩, .string ⟨#[]⟩, .string ⟨#[]⟩, .int .i64 0, .string ⟨#[]⟩] 42))) := Rg.Bk.new rfl; have kB2 := Rg.hid (kB.out.drew.below bl); have kI2 := Rg.hid (kI.out.drew.below bl kI.out.lt); have kR2 := Rg.hid (kR.out.drew.below bl kR.out.lt); have hb2 := Rg.hid (Rg.chain hb.out.drew bl)
      refine hK.out _ _ ?_ (fun hH1 => ?_)
      · exact ⟨kB2.out, kI2.out⟩
      clear hK K hH0
      try simp only [Act.put]
      clear kB kI kR hb
      refine Rg.AnyL.one 1 (o := { dst := some 15, op := _, type := _, pos := _, after := _, guard := _ }) (by decide) (fun K hK => ?_)
      go_simp; go_at_call 44; refine (HF.out _ hb2.out kB2.out.dt).mono ?_; rintro e w2 ⟨fa, fc, rfl, hrow, bf⟩; have kB3 := Rg.hid (kB2.out.below bf.out); have kI3 := Rg.hid (kI2.out.below bf.out kI2.out.lt); have kR3 := Rg.hid (kR2.out.below bf.out kR2.out.lt); have hb3 := Rg.hid (Rg.chain hb2.out bf.out); have kA3 := Rg.hid (kA2.out.below bf.out kA2.out.lt); have hrow3 := hrow
      refine hK.out _ _ ?_ (fun hH2 => ?_)
      · exact ⟨kB3.out, kI3.out⟩
      clear hK K hH1
      try simp only [Act.put]
      clear kB2 kI2 kR2 hb2 kA2 hrow bf bl
      refine Rg.AnyL.one 4 (o := { dst := some 18, op := _, type := _, pos := _, after := _, guard := _ }) (by decide) (fun K hK => ?_)
      go_simp; go_at_call 43; refine (HH.out _ _ _ hb3.out hrow3.out).mono ?_; rintro e w3 ⟨rfl, bh⟩; have kB4 := Rg.hid (kB3.out.below bh); have kI4 := Rg.hid (kI3.out.below bh kI3.out.lt); have kR4 := Rg.hid (kR3.out.below bh kR3.out.lt); have hb4 := Rg.hid (Rg.chain hb3.out bh); have kA4 := Rg.hid (kA3.out.below bh kA3.out.lt)
      refine hK.out _ _ ?_ (fun hH3 => ?_)
      · exact ⟨kB4.out, kI4.out⟩
      clear hK K hH2
      try simp only [Act.put]
      refine Rg.tlq 5 (some 13) ?_
      refine Rg.tlp 7 (some 20) ?_
      refine Rg.tlq 6 (some 19) ?_
      obtain ⟨wS, stS, kS, oS⟩ := hst kA4.out rfl (oh.getD Spl.Hd.zero)
      refine Rg.AnyL.last 9 (o := { dst := none, op := _, type := _, pos := _, after := _, guard := _ }) (by decide) (fun K hK => ?_)
      refine Rg.xstore rfl _ _ _ rfl rfl rfl stS ?_
      refine hK.out _ _ ?_
      clear hK K hH3
      try simp only [Act.put]
      refine Rg.tlp 10 (some 9) ?_
      refine Rg.AnyL.done ?_
      go_wp2_with fail
      go_meet
      exact ⟨_, rfl, rfl, kS, kR4.out.same (oS.block R nHB.out), hb4.out.trans (oS.bel hHw.out)⟩
  case rest =>
    obtain ⟨H, rfl, rfl, kH, kR2, hb2⟩ := hcut
    clear HF HH kB kI kR hb
    cases oh with
    | none =>
      have hrr2 : Hid (r = (Spl.Hd.zero, 6)) := hrr
      obtain ⟨w5, st5, k5, o5⟩ := hst kR2.out rfl Spl.Hd.zero
      dsimp only [Option.isSome_none] at *
      clear hrr kH
      go_wp2_with (with_reducible refine Rg.isst (.tmp 6) (.tmp 23) 42 ?_; refine Rg.lst (.tmp 6) (.tmp 23) 42 rfl rfl st5 ?_)
      exact bodyPost_ret (v := .tuple #[.agg (hc Spl.Hd.zero).toArray, .int .i64 6]) (Rg.res2 rfl rfl rfl (hld k5)) rfl (show LPost r w _ w5 by rw [hrr2.out]; exact ⟨rfl, hb2.out.trans (o5.bel hRw.out)⟩)
    | some h =>
      have hrr2 : Hid (r = (h, 0)) := hrr
      obtain ⟨w5, st5, k5, o5⟩ := hst kR2.out rfl h
      have hlh := Rg.hid (hld (h := h) kH.out)
      dsimp only [Option.isSome_some] at *
      clear hrr kH
      go_wp2_with (first | (with_reducible refine Rg.isld (.tmp 8) 42 ?_; refine Rg.lld (.tmp 8) 42 rfl hlh.out ?_) | (with_reducible refine Rg.isst (.tmp 6) (.tmp 24) 42 ?_; refine Rg.lst (.tmp 6) (.tmp 24) 42 rfl rfl st5 ?_))
      exact bodyPost_ret (v := .tuple #[.agg (hc h).toArray, .int .i64 0]) (Rg.res2 rfl rfl rfl (hld k5)) rfl (show LPost r w _ w5 by rw [hrr2.out]; exact ⟨rfl, hb2.out.trans (o5.bel hRw.out)⟩)
theorem load_any (v : Value) (d : Dsk.Dk) (s : ByteArray) (g n : Int) (w : World) (hd : Dsk.Ok d) (hm : Mild (Dsk.files d)) (hs : s.size ≤ maxLen) (h : DAt w v d) (hw : Ok w) :
    Calls Tryz.prog 16 #[v, .string s, .agg #[.int .i64 g, .int .i64 n]] w fun e w' => LPost (Spl.load d s g n) w e w' := by
  obtain ⟨CS, rfl⟩ := h.agg
  refine load_core s g n CS d (Dsk.files d) (Dsk.files d).length (Spl.held (Dsk.files d) 67 s g n) w h (fun W hW hv => (files_any _ d W hd hv).mono fun e w' ⟨v, h1, h2, h3⟩ => ?_) (fun W a c hW hr => held_any a c _ 67 s g n W hm hr hs (hw.below hW)) _ ?_
  · obtain ⟨a, c, h4, h5⟩ := h2.shape
    exact ⟨a, c, by rw [h1, h4], h5, h3⟩
  · show _ = _
    unfold Spl.load
    cases hdn : d.down
    · rw [if_neg (by simp), if_neg (by simp)]
      cases Spl.held (Dsk.files d) 67 s g n <;> rfl
    · rw [if_pos rfl, if_pos rfl]
end Go.Proofs.YtmilfamjkiemaaaGreatDoor
