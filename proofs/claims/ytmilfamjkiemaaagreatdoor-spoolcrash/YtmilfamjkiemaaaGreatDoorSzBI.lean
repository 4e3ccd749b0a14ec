/-
  Layer 18: Queue of the program. Layer 18: what the program's calls answer at a spool's disk.
-/
import Derived.Test.YtmilfamjkiemaaaGreatDoorSzBH
import Derived.Test.YtmilfamjkiemaaaGreatDoorSzBB
namespace Go.Proofs.YtmilfamjkiemaaaGreatDoor
open Go.RowKit
theorem idst {R : Nat} {C : List Value} {ty : TypeId} {W : World} (k : Rg.Bk R C ty W) (hl : C.length = 2) (g n : Int) :
    ∃ W', (storeVar 31 ⟨R, 0, none⟩ (.agg #[.int .i64 g, .int .i64 n])).run Tryz.prog W = .ok () W' ∧ Rg.Bk R [.int .i64 g, .int .i64 n] ty W' ∧ Rg.Only R W W' :=
  Rg.row_storeVar (CS := #[.int .i64 g, .int .i64 n]) k idU (by rw [hl]; rfl) (by simp [Value.oneCell'])
theorem DB.onlyI {B R : Nat} {CS : Array Value} {d : Dsk.Dk} {g n : Int} {ty : TypeId} {W W' : World} (h : DB B CS d W) (hr : Rg.Bk R [.int .i64 g, .int .i64 n] ty W) (hne : B ≠ R) (ho : Rg.Only R W W') : DB B CS d W' :=
  ⟨h.bk.same (ho.block B hne), h.dt.only hr (fun u hu s => by simp at hu; rcases hu with rfl | rfl <;> (intro c; cases c)) ho⟩
/-- what Queue answers -/
def QPost (r : Dsk.Dk × (Int × Int) × Int) (w : World) (e : Ending) (w' : World) : Prop := ∃ CS, e = .returned (.tuple #[.agg CS, .agg #[.int .i64 r.2.1.1, .int .i64 r.2.1.2], .int .i64 r.2.2]) ∧ Hid (DAt w' (.agg CS) r.1) ∧ Hid (Below w.heap.size w w')
set_option maxHeartbeats 2000000 in
set_option maxRecDepth 100000 in
theorem queue_core (s x : ByteArray) (j : Job.Jb) (CS : Array Value) (d d1 : Dsk.Dk) (n0 z0 E E1 : Int) (T : ByteArray) (w : World) (h : DAt w (.agg CS) d) (hz : Hid ((x.size : Int) = z0))
    (HN : Hid (∀ W, Below w.heap.size w W → DAt W (.agg CS) d → Calls Tryz.prog 46 #[.agg CS] W fun e w' => e = .returned (.int .i64 n0) ∧ Below W.heap.size W w'))
    (HM : Hid (∀ W, Below w.heap.size w W → DAt W (.agg CS) d → Calls Tryz.prog 47 #[.agg CS, .string s, .agg #[.int .i64 j.g, .int .i64 n0, .int .i64 j.k, .string j.u, .string j.f, .string j.t, .string j.c, .int .i64 z0], .string x] W fun e w' => e = .returned (.tuple #[.string T, .int .i64 E]) ∧ Below W.heap.size W w'))
    (HL : Hid (E = 0 → ∀ W, Below w.heap.size w W → DAt W (.agg CS) d → Calls Tryz.prog 48 #[.agg CS, .string s, .agg #[.int .i64 j.g, .int .i64 n0, .int .i64 j.k, .string j.u, .string j.f, .string j.t, .string j.c, .int .i64 z0], .string T, .string x] W fun e w' => V2Post W (d1, E1) e w'))
    (r : Dsk.Dk × (Int × Int) × Int) (hr : Hid (r = if E ≠ 0 then (d, (0, 0), E) else if E1 ≠ 0 then (d1, (0, 0), E1) else (d1, (j.g, n0), 0))) :
    Calls Tryz.prog 18 #[.agg CS, .string s, .agg #[.int .i64 j.g, .int .i64 j.n, .int .i64 j.k, .string j.u, .string j.f, .string j.t, .string j.c, .int .i64 j.z], .string x] w fun e w' => QPost r w e w' := by
  have kB : Hid (DB w.heap.size CS d ((((w.alloc (.cells CS 28)).alloc (.cells #[.int .i64 j.g, .int .i64 j.n, .int .i64 j.k, .string j.u, .string j.f, .string j.t, .string j.c, .int .i64 j.z] 33)).alloc (.cells #[.slice none 0 0, .slice none 0 0, .int .i64 0, .int .i64 0, .bool false] 28)).alloc (.cells #[.int .i64 0, .int .i64 0] 31))) := (((DB.new h).old _).old _).old _
  have kJ : Hid (Rg.Bk (w.heap.size + 1) [.int .i64 j.g, .int .i64 j.n, .int .i64 j.k, .string j.u, .string j.f, .string j.t, .string j.c, .int .i64 j.z] 33 ((((w.alloc (.cells CS 28)).alloc (.cells #[.int .i64 j.g, .int .i64 j.n, .int .i64 j.k, .string j.u, .string j.f, .string j.t, .string j.c, .int .i64 j.z] 33)).alloc (.cells #[.slice none 0 0, .slice none 0 0, .int .i64 0, .int .i64 0, .bool false] 28)).alloc (.cells #[.int .i64 0, .int .i64 0] 31))) := ((Rg.Bk.new (by simp)).old _).old _
  have kR : Hid (DB (w.heap.size + 2) zcD zdk ((((w.alloc (.cells CS 28)).alloc (.cells #[.int .i64 j.g, .int .i64 j.n, .int .i64 j.k, .string j.u, .string j.f, .string j.t, .string j.c, .int .i64 j.z] 33)).alloc (.cells #[.slice none 0 0, .slice none 0 0, .int .i64 0, .int .i64 0, .bool false] 28)).alloc (.cells #[.int .i64 0, .int .i64 0] 31))) := DB.old ⟨Rg.Bk.new (by simp), zdk_at _⟩ _
  have kD : Hid (Rg.Bk (w.heap.size + 3) [.int .i64 0, .int .i64 0] 31 ((((w.alloc (.cells CS 28)).alloc (.cells #[.int .i64 j.g, .int .i64 j.n, .int .i64 j.k, .string j.u, .string j.f, .string j.t, .string j.c, .int .i64 j.z] 33)).alloc (.cells #[.slice none 0 0, .slice none 0 0, .int .i64 0, .int .i64 0, .bool false] 28)).alloc (.cells #[.int .i64 0, .int .i64 0] 31))) := Rg.Bk.new (by simp)
  have hb := Rg.hid (Rg.al4 w (.cells CS 28) (.cells #[.int .i64 j.g, .int .i64 j.n, .int .i64 j.k, .string j.u, .string j.f, .string j.t, .string j.c, .int .i64 j.z] 33) (.cells #[.slice none 0 0, .slice none 0 0, .int .i64 0, .int .i64 0, .bool false] 28) (.cells #[.int .i64 0, .int .i64 0] 31))
  have h0 := Rg.hid h
  clear h
  go_enter Tryz.func18, Tryz.ntmps18
  go_upto_region 1 with fail
  generalize World.alloc _ _ = w1 at *
  obtain ⟨B, hB⟩ : ∃ B, B = w.heap.size := ⟨_, rfl⟩
  obtain ⟨J, hJ⟩ : ∃ J, J = w.heap.size + 1 := ⟨_, rfl⟩
  obtain ⟨R, hR⟩ : ∃ R, R = w.heap.size + 2 := ⟨_, rfl⟩
  obtain ⟨D, hD⟩ : ∃ D, D = w.heap.size + 3 := ⟨_, rfl⟩
  rw [← hD] at kD ⊢
  rw [← hR] at kR ⊢
  rw [← hJ] at kJ ⊢
  rw [← hB] at kB ⊢
  have hBw : Hid (w.heap.size ≤ B) := by show _ ≤ _; omega
  have nBJ : B ≠ J := by omega
  have nBR : B ≠ R := by omega
  have nBD : B ≠ D := by omega
  have hJw : Hid (w.heap.size ≤ J) := by show _ ≤ _; omega
  have nJR : J ≠ R := by omega
  have nJD : J ≠ D := by omega
  have hRw : Hid (w.heap.size ≤ R) := by show _ ≤ _; omega
  have nRD : R ≠ D := by omega
  have hDw : Hid (w.heap.size ≤ D) := by show _ ≤ _; omega
  clear hB hJ hR hD
  have hl1 := Rg.hid kB.out.ld
  have hz0 := hz
  go_upto_region 2 with (first | (with_reducible refine Rg.isld (.tmp 4) 28 ?_; refine Rg.lld (.tmp 4) 28 rfl hl1.out ?_) | (go_at_call 46; refine (HN.out _ hb.out kB.out.dt).mono ?_; rintro e w2 ⟨rfl, b2⟩; have kJ2 := Rg.hid (kJ.out.below b2 kJ.out.lt); have j1 : w2.cell? ⟨J, 1, none⟩ = some (.int .i64 j.n) := kJ2.out.cell 1; have j7 : w2.cell? ⟨J, 7, none⟩ = some (.int .i64 j.z) := kJ2.out.cell 7; have jf := kJ2.out.thaw; have jl := kJ2.out.lt))
  have kJ3 : Hid (Rg.Bk J [.int .i64 j.g, .int .i64 n0, .int .i64 j.k, .string j.u, .string j.f, .string j.t, .string j.c, .int .i64 z0] 33 ((w2.setCell ⟨J, 1, none⟩ (.int .i64 n0)).setCell ⟨J, 7, none⟩ (.int .i64 (x.size : Int)))) := by
    have := (kJ2.out.set 1 (.int .i64 n0)).set 7 (.int .i64 (x.size : Int))
    rw [hz.out] at this ⊢
    exact this
  have oJ : Rg.Only J w2 ((w2.setCell ⟨J, 1, none⟩ (.int .i64 n0)).setCell ⟨J, 7, none⟩ (.int .i64 (x.size : Int))) := (Rg.Only.setCell w2 J 1 _).trans (Rg.Only.setCell _ J 7 _)
  generalize World.setCell _ _ _ = w3 at *
  have hb3 : Hid (Below w.heap.size w w3) := (Rg.chain hb.out b2).trans (oJ.bel hJw.out)
  have kB3 : Hid (DB B CS d w3) := ⟨(kB.out.below b2).bk.same (oJ.block B nBJ), h0.out.below hb3.out⟩
  have kR3 : Hid (DB R zcD zdk w3) := ⟨(kR.out.below b2).bk.same (oJ.block R nJR.symm), zdk_at _⟩
  have kD3 : Hid (Rg.Bk D [.int .i64 0, .int .i64 0] 31 w3) := (kD.out.below b2 kD.out.lt).same (oJ.block D nJD.symm)
  clear kB kJ kR kD hb b2 kJ2 j1 j7 jf jl oJ hl1 h0 HN hz hz0
  have hl3 := Rg.hid kB3.out.ld
  have hlj3 : Hid ((loadVar 33 ⟨J, 0, none⟩).run Tryz.prog w3 = .ok (.agg #[.int .i64 j.g, .int .i64 n0, .int .i64 j.k, .string j.u, .string j.f, .string j.t, .string j.c, .int .i64 z0]) w3) := jld (j := ⟨j.g, n0, j.k, j.u, j.f, j.t, j.c, z0⟩) kJ3.out
  go_upto_region 3 with (first | (with_reducible refine Rg.isld (.tmp 4) 28 ?_; refine Rg.lld (.tmp 4) 28 rfl hl3.out ?_) | (with_reducible refine Rg.isld (.tmp 6) 33 ?_; refine Rg.lld (.tmp 6) 33 rfl hlj3.out ?_) | (go_at_call 47; refine (HM.out _ hb3.out kB3.out.dt).mono ?_; rintro e w4 ⟨rfl, b4⟩))
  have kB4 := Rg.hid (kB3.out.below b4)
  have kR4 := Rg.hid (kR3.out.below b4)
  have kD4 := Rg.hid (kD3.out.below b4 kD3.out.lt)
  have kJ4 := Rg.hid (kJ3.out.below b4 kJ3.out.lt)
  have hb4 := Rg.hid (Rg.chain hb3.out b4)
  clear kB3 kR3 kD3 kJ3 hb3 b4 hl3 hlj3 HM
  have hl4 := Rg.hid kB4.out.ld
  by_cases hE : E = 0
  rotate_left
  · have e0 : (E != 0) = true := by rw [bne_iff_ne]; exact hE
    have hrr : Hid (r = (d, (0, 0), E)) := by show _ = _; rw [hr.out, if_pos hE]
    obtain ⟨w5, st5, k5, o5⟩ := kR4.out.st kB4.out.dt
    have kD5 := Rg.hid (kD4.out.same (o5.block D nRD.symm))
    obtain ⟨w6, st6, k6, o6⟩ := idst kD5.out rfl 0 0
    have k7 := Rg.hid (k5.onlyI kD5.out nRD o6)
    clear hr HL
    go_wp2_with (first | (with_reducible refine Rg.isld (.tmp 4) 28 ?_; refine Rg.lld (.tmp 4) 28 rfl hl4.out ?_) | (with_reducible refine Rg.isst (.tmp 8) (.tmp 31) 28 ?_; refine Rg.lst (.tmp 8) (.tmp 31) 28 rfl rfl st5 ?_) | (with_reducible refine Rg.isst (.tmp 9) (.tmp 32) 31 ?_; refine Rg.lst (.tmp 9) (.tmp 32) 31 rfl rfl st6 ?_))
    exact bodyPost_ret (v := .tuple #[.agg CS, .agg #[.int .i64 0, .int .i64 0], .int .i64 E]) (Rg.rescc rfl rfl rfl rfl k7.out.ld (idld k6)) rfl (show QPost r w _ w6 by rw [hrr.out]; exact ⟨CS, rfl, k7.out.dt, (hb4.out.trans (o5.bel hRw.out)).trans (o6.bel hDw.out)⟩)
  subst hE
  have hlj4 : Hid ((loadVar 33 ⟨J, 0, none⟩).run Tryz.prog w4 = .ok (.agg #[.int .i64 j.g, .int .i64 n0, .int .i64 j.k, .string j.u, .string j.f, .string j.t, .string j.c, .int .i64 z0]) w4) := jld (j := ⟨j.g, n0, j.k, j.u, j.f, j.t, j.c, z0⟩) kJ4.out
  go_upto_region 6 with (first | (with_reducible refine Rg.isld (.tmp 4) 28 ?_; refine Rg.lld (.tmp 4) 28 rfl hl4.out ?_) | (with_reducible refine Rg.isld (.tmp 6) 33 ?_; refine Rg.lld (.tmp 6) 33 rfl hlj4.out ?_) | (go_at_call 48; refine (HL.out rfl _ hb4.out kB4.out.dt).mono ?_; rintro e w5 ⟨CS1, rfl, a5, b5⟩; obtain ⟨w6, st6, k6, o6⟩ := (show DB w5.heap.size zcD zdk (w5.alloc (.cells #[.slice none 0 0, .slice none 0 0, .int .i64 0, .int .i64 0, .bool false] 28)) from ⟨Rg.Bk.new rfl, zdk_at _⟩).st (a5.out.below (Rg.al1 w5 (.cells #[.slice none 0 0, .slice none 0 0, .int .i64 0, .int .i64 0, .bool false] 28)))) | (with_reducible refine Rg.isst (.tmp 13) (.tmp 41) 28 ?_; refine Rg.lst (.tmp 13) (.tmp 41) 28 rfl rfl st6 ?_))
  have b56 : Below w5.heap.size w5 w6 := (Rg.al1 w5 (.cells #[.slice none 0 0, .slice none 0 0, .int .i64 0, .int .i64 0, .bool false] 28)).trans (o6.bel (Nat.le_refl _))
  have kR6 : Hid (DB R zcD zdk w6) := ⟨((kR4.out.below b5.out).below b56).bk, zdk_at _⟩
  have kD6 := Rg.hid ((kD4.out.below b5.out kD4.out.lt).below b56 (Nat.lt_of_lt_of_le kD4.out.lt b5.out.size))
  have kJ6 := Rg.hid ((kJ4.out.below b5.out kJ4.out.lt).below b56 (Nat.lt_of_lt_of_le kJ4.out.lt b5.out.size))
  have hb6 := Rg.hid (Rg.chain (Rg.chain hb4.out b5.out) b56)
  have k6' := Rg.hid k6
  obtain ⟨X, hX⟩ : ∃ X, X = w5.heap.size := ⟨_, rfl⟩
  have nRX : R ≠ X := by rw [hX]; exact Nat.ne_of_lt (Nat.lt_of_lt_of_le kR4.out.lt b5.out.size)
  have nDX : D ≠ X := by rw [hX]; exact Nat.ne_of_lt (Nat.lt_of_lt_of_le kD4.out.lt b5.out.size)
  have hXw : Hid (w.heap.size ≤ X) := by show _ ≤ _; rw [hX]; exact (Rg.chain hb4.out b5.out).size
  rw [← hX] at k6' ⊢
  clear hX k6 o6 st6 a5 b5 b56 kB4 kR4 kD4 kJ4 hb4 hl4 hlj4 HL
  try dsimp only at k6'
  have hl6 := Rg.hid k6'.out.ld
  by_cases hE : E1 = 0
  rotate_left
  · have e0 : (E1 != 0) = true := by rw [bne_iff_ne]; exact hE
    have hrr : Hid (r = (d1, (0, 0), E1)) := by show _ = _; rw [hr.out, if_neg (by simp), if_pos hE]
    obtain ⟨w7, st7, k7, o7⟩ := kR6.out.st k6'.out.dt
    have kD7 := Rg.hid (kD6.out.same (o7.block D nRD.symm))
    obtain ⟨w8, st8, k8, o8⟩ := idst kD7.out rfl 0 0
    have k9 := Rg.hid (k7.onlyI kD7.out nRD o8)
    clear hr
    go_wp2_with (first | (with_reducible refine Rg.isld (.tmp 13) 28 ?_; refine Rg.lld (.tmp 13) 28 rfl hl6.out ?_) | (with_reducible refine Rg.isst (.tmp 8) (.tmp 45) 28 ?_; refine Rg.lst (.tmp 8) (.tmp 45) 28 rfl rfl st7 ?_) | (with_reducible refine Rg.isst (.tmp 9) (.tmp 46) 31 ?_; refine Rg.lst (.tmp 9) (.tmp 46) 31 rfl rfl st8 ?_))
    exact bodyPost_ret (v := .tuple #[.agg CS1, .agg #[.int .i64 0, .int .i64 0], .int .i64 E1]) (Rg.rescc rfl rfl rfl rfl k9.out.ld (idld k8)) rfl (show QPost r w _ w8 by rw [hrr.out]; exact ⟨CS1, rfl, k9.out.dt, (hb6.out.trans (o7.bel hRw.out)).trans (o8.bel hDw.out)⟩)
  subst hE
  have hrr : Hid (r = (d1, (j.g, n0), 0)) := by show _ = _; rw [hr.out, if_neg (by simp), if_neg (by simp)]
  clear hr hl6
  go_upto_region 8 with fail
  refine Rg.beginL (fun (w' : World) => DB X CS1 d1 w' ∧ Rg.Bk J [.int .i64 j.g, .int .i64 n0, .int .i64 j.k, .string j.u, .string j.f, .string j.t, .string j.c, .int .i64 z0] 33 w') [] (by kernel_rfl) ?_ (fun hH0 => ?_)
  · exact ⟨k6'.out.drew, kJ6.out.drew⟩
  refine Rg.tlv 0 (some 48) (.agg CS1) (fun w hSw => Rg.xload _ _ rfl rfl (hSw.1.ld)) ?_
  refine Rg.tlq 1 (some 49) ?_
  refine Rg.tlv 2 (some 50) (.agg #[.int .i64 j.g, .int .i64 n0]) (fun w hSw => Rg.xload _ _ rfl rfl (jidld (j := ⟨j.g, n0, j.k, j.u, j.f, j.t, j.c, z0⟩) hSw.2)) ?_
  obtain ⟨w7, st7, k7, o7⟩ := kR6.out.drew.st k6'.out.drew.dt
  have kD7 := Rg.hid (kD6.out.drew.same (o7.block D nRD.symm))
  obtain ⟨w8, st8, k8, o8⟩ := idst kD7.out rfl j.g n0
  have k9 := Rg.hid (k7.onlyI kD7.out nRD o8)
  have kX7 := Rg.hid (k6'.out.drew.only kR6.out.drew nRX.symm o7)
  have kJ7 := Rg.hid (kJ6.out.drew.same (o7.block J nJR))
  have kX8 := Rg.hid (kX7.out.onlyI kD7.out nDX.symm o8)
  have kJ8 := Rg.hid (kJ7.out.same (o8.block J nJD))
  refine Rg.AnyL.one 3 (o := { dst := none, op := _, type := _, pos := _, after := _, guard := _ }) (by decide) (fun K hK => ?_)
  refine Rg.xstore rfl _ _ _ rfl rfl rfl st7 ?_
  refine hK.out _ _ ?_ (fun hH1 => ?_)
  · exact ⟨kX7.out, kJ7.out⟩
  clear hK K hH0
  try simp only [Act.put]
  refine Rg.AnyL.one 4 (o := { dst := none, op := _, type := _, pos := _, after := _, guard := _ }) (by decide) (fun K hK => ?_)
  refine Rg.xstore rfl _ _ _ rfl rfl rfl st8 ?_
  refine hK.out _ _ ?_ (fun hH2 => ?_)
  · exact ⟨kX8.out, kJ8.out⟩
  clear hK K hH1
  try simp only [Act.put]
  refine Rg.tlq 5 (some 10) ?_
  refine Rg.AnyL.done ?_
  go_wp2
  exact bodyPost_ret (v := .tuple #[.agg CS1, .agg #[.int .i64 j.g, .int .i64 n0], .int .i64 0]) (Rg.rescc rfl rfl rfl rfl k9.out.ld (idld k8)) rfl (show QPost r w _ w8 by rw [hrr.out]; exact ⟨CS1, rfl, k9.out.dt, (hb6.out.drew.trans (o7.bel hRw.out)).trans (o8.bel hDw.out)⟩)
end Go.Proofs.YtmilfamjkiemaaaGreatDoor

namespace Go.Proofs.YtmilfamjkiemaaaGreatDoor
open Go.RowKit
theorem Fit.mild {m : Nat} {d : Dsk.Dk} (h : Spl.Fit m d) (hm : m ≤ 1000000) : Mild (Dsk.files d) := by
  have hu := h.used
  have hl := Dsk.len_used (Dsk.files d)
  refine ⟨h.sm.cl.files.1, by omega, fun f hf => ?_, fun f hf => ?_⟩
  · have := h.ns.files f hf; unfold maxLen; omega
  · have := Spl.used_mem hf; omega
theorem V2Post.of {w : World} {r r' : Dsk.Dk × Int} {e : Ending} {w' : World} (h : V2Post w r e w') (q : r = r') : V2Post w r' e w' := by rw [← q]; exact h
theorem sleave_any (v : Value) (d : Dsk.Dk) (s : ByteArray) (g n : Int) (w : World) (hd : Dsk.Ok d) (hwt : Dsk.Wt d + 16 ≤ 10000000000) (hs : s.size ≤ maxLen) (h : DAt w v d) (hw : Ok w) :
    Calls Tryz.prog 37 #[v, .string s, .agg #[.int .i64 g, .int .i64 n]] w fun e w' => V2Post w (Spl.leave d s g n) e w' := by
  obtain ⟨CS, rfl⟩ := h.agg
  refine leave_core s g n CS d (Dsk.remove d (Spl.fn 68 s g n)).1 (Dsk.sync (Dsk.remove d (Spl.fn 68 s g n)).1).1 (Dsk.remove d (Spl.fn 68 s g n)).2 (Dsk.sync (Dsk.remove d (Spl.fn 68 s g n)).1).2 (Spl.fn 68 s g n) w h (fun W hW => fileOf_any 68 s g n W hs (hw.below hW)) (fun W CS _ hv => (remove_any _ d _ W hd hv).mono fun _ _ q => q.v2) (fun W CS _ hv => (sync_any _ _ W (Spl.remove_ok hd _ hwt) hv).mono fun _ _ q => q.v2) _ ?_
  unfold Spl.leave
  dsimp only
theorem done_any {m : Nat} (v : Value) (d : Dsk.Dk) (s : ByteArray) (g n : Int) (w : World) (hf : Spl.Fit m d) (hm : m ≤ 1000000) (hs : s.size ≤ maxLen) (h : DAt w v d) (hw : Ok w) :
    Calls Tryz.prog 12 #[v, .string s, .agg #[.int .i64 g, .int .i64 n]] w fun e w' => V2Post w (Spl.done d s g n) e w' := by
  obtain ⟨CS, rfl⟩ := h.agg
  have hok := hf.sm.ok
  have hwt := hf.sm.wt
  have hr := Spl.remove_ok hok (Spl.fn 67 s g n) (by omega)
  have hrw : Dsk.Wt (Dsk.remove d (Spl.fn 67 s g n)).1 ≤ Dsk.Wt d + 16 := (Dsk.play_ok hok ⟨4, Spl.fn 67 s g n, ⟨#[]⟩, ⟨#[]⟩, 0⟩ (by show Dsk.Wt d + 0 + 16 ≤ _; omega) (by show (0 : Int) ≤ _; omega)).2
  refine done_core s g n CS d (Dsk.remove d (Spl.fn 67 s g n)).1 (Spl.leave (Dsk.remove d (Spl.fn 67 s g n)).1 s g n).1 (Spl.load d s g n).1 (Spl.load d s g n).2 (Dsk.remove d (Spl.fn 67 s g n)).2 (Spl.leave (Dsk.remove d (Spl.fn 67 s g n)).1 s g n).2 (Spl.fn 67 s g n) w h (fun W CS hW hv => load_any _ d s g n W hok (Fit.mild hf hm) hs hv (hw.below hW)) (fun W hW => fileOf_any 67 s g n W hs (hw.below hW)) (fun W CS _ hv => (remove_any _ d _ W hok hv).mono fun _ _ q => q.v2) (fun W CS hW hv => sleave_any _ _ s g n W hr (by omega) hs hv (hw.below hW)) _ ?_
  unfold Spl.done
  dsimp only
theorem fail_any {m : Nat} (v : Value) (d : Dsk.Dk) (s : ByteArray) (g n : Int) (w : World) (hf : Spl.Fit m d) (hm : m ≤ 1000000) (hs : s.size ≤ maxLen) (h : DAt w v d) (hw : Ok w) :
    Calls Tryz.prog 14 #[v, .string s, .agg #[.int .i64 g, .int .i64 n]] w fun e w' => V2Post w (Spl.fail d s g n) e w' := by
  obtain ⟨CS, rfl⟩ := h.agg
  have hok := hf.sm.ok
  have hwt := hf.sm.wt
  have hr := Spl.rename_ok hok (Spl.fn 67 s g n) (Spl.fn 69 s g n) (by omega)
  have hrw : Dsk.Wt (Dsk.rename d (Spl.fn 67 s g n) (Spl.fn 69 s g n)).1 ≤ Dsk.Wt d + 16 := (Dsk.play_ok hok ⟨3, Spl.fn 67 s g n, Spl.fn 69 s g n, ⟨#[]⟩, 0⟩ (by show Dsk.Wt d + 0 + 16 ≤ _; omega) (by show (0 : Int) ≤ _; omega)).2
  have h30 := Spl.fn_sh 69 s g n
  refine fail_core s g n CS d (Dsk.rename d (Spl.fn 67 s g n) (Spl.fn 69 s g n)).1 (Spl.leave (Dsk.rename d (Spl.fn 67 s g n) (Spl.fn 69 s g n)).1 s g n).1 (Spl.load d s g n).1 (Spl.load d s g n).2 (Dsk.rename d (Spl.fn 67 s g n) (Spl.fn 69 s g n)).2 (Spl.leave (Dsk.rename d (Spl.fn 67 s g n) (Spl.fn 69 s g n)).1 s g n).2 (Spl.fn 67 s g n) (Spl.fn 69 s g n) w h (fun W CS hW hv => load_any _ d s g n W hok (Fit.mild hf hm) hs hv (hw.below hW)) (fun W hW => fileOf_any 67 s g n W hs (hw.below hW)) (fun W hW => fileOf_any 69 s g n W hs (hw.below hW)) (fun W CS _ hv => (rename_any _ d _ _ W hok (by unfold maxLen; omega) hv).mono fun _ _ q => q.v2) (fun W CS hW hv => sleave_any _ _ s g n W hr (by omega) hs hv (hw.below hW)) _ ?_
  unfold Spl.fail
  dsimp only
theorem lay_any {m : Nat} (v : Value) (d : Dsk.Dk) (s t x : ByteArray) (j : Job.Jb) (w : World) (hf : Spl.Fit m d) (hm : m ≤ 1000000) (hs : s.size ≤ maxLen) (h1 : 1 ≤ j.n) (h2 : j.n ≤ 99999) (ht : t.size ≤ 1000000) (hx : x.size ≤ 1000000) (h : DAt w v d) (hw : Ok w) :
    Calls Tryz.prog 48 #[v, .string s, .agg #[.int .i64 j.g, .int .i64 j.n, .int .i64 j.k, .string j.u, .string j.f, .string j.t, .string j.c, .int .i64 j.z], .string t, .string x] w fun e w' => V2Post w (Spl.lay d s j t x) e w' := by
  obtain ⟨CS, rfl⟩ := h.agg
  have hok := hf.sm.ok
  have hwt := hf.sm.wt
  have h6 := Spl.itoa6 h1 h2
  have h6' := Spl.ba_size (Lib.itoa (j.n + 1))
  obtain ⟨N, hN⟩ : ∃ N, N = Spl.ba (Lib.itoa (j.n + 1)) := ⟨_, rfl⟩
  rw [← hN] at h6'
  obtain ⟨r1, hr1⟩ : ∃ r1, r1 = Dsk.write d Spl.numF N := ⟨_, rfl⟩
  have k1 := Spl.write_ok hok Spl.numF N (by omega)
  rw [← hr1] at k1
  obtain ⟨r2, hr2⟩ : ∃ r2, r2 = Dsk.write r1.1 (Spl.fn 68 s j.g j.n) x := ⟨_, rfl⟩
  have k2 := Spl.write_ok k1.1 (Spl.fn 68 s j.g j.n) x (by omega)
  rw [← hr2] at k2
  obtain ⟨db, hdb⟩ : ∃ db, db = if j.k ≠ 3 then r2.1 else r1.1 := ⟨_, rfl⟩
  have kb : Dsk.Ok db ∧ Dsk.Wt db ≤ 4000000 := by
    rw [hdb]; split
    · exact ⟨k2.1, by omega⟩
    · exact ⟨k1.1, by omega⟩
  obtain ⟨r3, hr3⟩ : ∃ r3, r3 = Dsk.write db (Spl.fn 67 s j.g j.n) t := ⟨_, rfl⟩
  have k3 := Spl.write_ok kb.1 (Spl.fn 67 s j.g j.n) t (by omega)
  rw [← hr3] at k3
  have hW : ∀ {d : Dsk.Dk}, Dsk.Wt d ≤ 9000000 → ∀ x : ByteArray, x.size ≤ 1000000 → Dsk.used d.safe + Dsk.wt d.ops + x.size + 16 ≤ 10000000000 := fun h x hx => by unfold Dsk.Wt at h; omega
  have s8 := Spl.fn_sh 68 s j.g j.n
  have s7 := Spl.fn_sh 67 s j.g j.n
  have hlay : Spl.lay d s j t x = if r1.2 ≠ 0 then r1 else if j.k ≠ 3 ∧ r2.2 ≠ 0 then r2 else if r3.2 = 0 then Dsk.sync r3.1 else r3 := by
    unfold Spl.lay
    dsimp only
    rw [← hN, ← hr1, ← hr2]
    by_cases e1 : r1.2 = 0
    · by_cases e2 : j.k = 3
      · have a : (if r1.2 = 0 ∧ j.k ≠ 3 then r2 else r1) = r1 := if_neg (fun q => q.2 e2)
        have hb : db = r1.1 := by rw [hdb, if_neg (by simp [e2])]
        rw [hb] at hr3
        rw [a, if_pos e1, ← hr3, if_neg (show ¬ (r1.2 ≠ 0) by simp [e1]), if_neg (show ¬ (j.k ≠ 3 ∧ r2.2 ≠ 0) from fun q => q.1 e2)]
      · have a : (if r1.2 = 0 ∧ j.k ≠ 3 then r2 else r1) = r2 := if_pos ⟨e1, e2⟩
        have hb : db = r2.1 := by rw [hdb, if_pos e2]
        rw [hb] at hr3
        rw [a]
        by_cases e3 : r2.2 = 0
        · rw [if_pos e3, ← hr3, if_neg (show ¬ (r1.2 ≠ 0) by simp [e1]), if_neg (show ¬ (j.k ≠ 3 ∧ r2.2 ≠ 0) from fun q => q.2 e3)]
        · rw [if_neg e3, if_neg e3, if_neg (show ¬ (r1.2 ≠ 0) by simp [e1]), if_pos (show j.k ≠ 3 ∧ r2.2 ≠ 0 from ⟨e2, e3⟩)]
    · have a : (if r1.2 = 0 ∧ j.k ≠ 3 then r2 else r1) = r1 := if_neg (fun q => e1 q.1)
      rw [a, if_neg e1, if_neg e1, if_pos (show r1.2 ≠ 0 from e1)]
  refine lay_core s t x j (j.n + 1) N (Spl.fn 67 s j.g j.n) (Spl.fn 68 s j.g j.n) CS d r1.1 r2.1 r3.1 (Dsk.sync r3.1).1 r1.2 r2.2 r3.2 (Dsk.sync r3.1).2 w h (by rw [IntKind.wrap_i64]; omega) (fun W hW => ?_) (fun W hW => fileOf_any 67 s j.g j.n W hs (hw.below hW)) (fun W hW => fileOf_any 68 s j.g j.n W hs (hw.below hW)) (fun W CS _ hv => ?_) (fun W CS _ hv => ?_) db hdb (fun W CS _ hv => ?_) (fun W CS _ hv => ?_) _ ?_
  · rw [hN]
    exact text_any (j.n + 1) W (by omega) (by omega) (hw.below hW).tab
  · have := write_any _ d Spl.numF N W hok (hW (by omega) N (by omega)) (by show (1 : Nat) ≤ _; unfold maxLen; omega) hv
    rw [← hr1] at this
    exact this.mono fun _ _ q => q.v2
  · have := write_any _ r1.1 (Spl.fn 68 s j.g j.n) x W k1.1 (hW (by omega) x hx) (by unfold maxLen; omega) hv
    rw [← hr2] at this
    exact this.mono fun _ _ q => q.v2
  · have := write_any _ db (Spl.fn 67 s j.g j.n) t W kb.1 (hW (by omega) t ht) (by unfold maxLen; omega) hv
    rw [← hr3] at this
    exact this.mono fun _ _ q => q.v2
  · exact (sync_any _ _ W k3.1 hv).mono fun _ _ q => q.v2
  · exact hlay
/-- the sizes of what is handed in -/
structure JFits (s x : ByteArray) (j : Job.Jb) : Prop where
  s : s.size ≤ maxLen
  u : j.u.size ≤ maxLen
  f : j.f.size ≤ maxLen
  t : j.t.size ≤ maxLen
  c : j.c.size ≤ maxLen
theorem GthPost.len {l : List Dsk.Fl} {k : Int} {sys : ByteArray} {w : World} {e : Ending} {w' : World} (h : GthPost l k sys w e w') : ∃ a c, e = .returned (.slice a (l.filterMap (Spl.pick l k sys)).length c) ∧ Below w.heap.size w w' := by
  obtain ⟨a, c, L, h1, h2, _, h4, _⟩ := h
  exact ⟨a, c, by rw [h1, h2.out.len], h4.out⟩
theorem mayq_any {m : Nat} (v : Value) (d : Dsk.Dk) (s x : ByteArray) (j : Job.Jb) (w : World) (hf : Spl.Fit m d) (hm : m ≤ 1000000) (hj : JFits s x j) (h : DAt w v d) (hw : Ok w) :
    Calls Tryz.prog 47 #[v, .string s, .agg #[.int .i64 j.g, .int .i64 j.n, .int .i64 j.k, .string j.u, .string j.f, .string j.t, .string j.c, .int .i64 j.z], .string x] w fun e w' => MPost (Spl.may d s j x) w e w' := by
  obtain ⟨CS, rfl⟩ := h.agg
  have hok := hf.sm.ok
  have hS : ∀ W, Calls Tryz.prog 67 #[.string s] W fun e w' => e = .returned (.bool (Nam.system s.data.toList)) ∧ w' = W := fun W => system_any s W hj.s
  have HJ : Hid (∀ W, Below w.heap.size w W → DAt W (.agg CS) d → Calls Tryz.prog 22 #[.agg CS, .string ⟨#[]⟩] W fun e w' => ∃ a c, e = .returned (.slice a (Spl.jobs d 67 ⟨#[]⟩).length c) ∧ Below W.heap.size W w') := fun W hW hv => (jobs_any _ d ⟨#[]⟩ W hok (Fit.mild hf hm) hv (hw.below hW)).mono fun _ _ q => q.len
  have HT : ∀ W, Below w.heap.size w W → Calls Tryz.prog 32 #[.agg #[.int .i64 j.g, .int .i64 j.n, .int .i64 j.k, .string j.u, .string j.f, .string j.t, .string j.c, .int .i64 j.z]] W fun e w' => e = .returned (.tuple #[.string ⟨(Job.text j).1.toArray⟩, .int .i64 ((Job.text j).2 : Nat)]) ∧ Below W.heap.size W w' := fun W hW => jtext_any j.g j.n j.k j.u j.f j.t j.c j.z W (hw.below hW) hj.u hj.f hj.t hj.c
  unfold Spl.may
  by_cases h1 : d.down = true
  · rw [if_pos h1]; exact may_down s x j CS d w h h1
  rw [if_neg h1]
  have h1' : d.down = false := by simpa using h1
  cases h2 : Nam.system s.data.toList
  · rw [if_pos rfl]
    rw [h2] at hS
    exact may_sys s x j CS d w h h1' hS
  rw [if_neg (by simp)]
  rw [h2] at hS
  by_cases h3 : 6000 < x.size
  · rw [if_pos h3]; exact may_long s x j CS d w h h1' hS h3
  rw [if_neg h3]
  by_cases h4 : j.k = 3 ∧ x ≠ ⟨#[]⟩
  · rw [if_pos h4]; exact may_fetch s x j CS d w h h1' hS h3 h4.1 h4.2
  rw [if_neg h4]
  have h4' : j.k = 3 → x = ⟨#[]⟩ := fun q => Classical.not_not.1 fun c => h4 ⟨q, c⟩
  by_cases h5 : 99999 < j.n
  · rw [if_pos h5]; exact may_num s x j CS d w h h1' hS h3 h4' h5
  rw [if_neg h5]
  by_cases h6 : 40 ≤ (Spl.jobs d 67 ⟨#[]⟩).length
  · rw [if_pos h6]; exact may_full s x j CS d w h h1' hS h3 h4' h5 _ HJ h6
  rw [if_neg h6]
  by_cases h7 : Job.chk j ≠ 0
  · rw [if_pos h7]
    have e : Job.text j = ([], Job.chk j) := if_neg h7
    rw [e] at HT
    exact may_text s x j CS d w h h1' hS h3 h4' h5 _ HJ h6 _ _ HT (by show ¬ ((Job.chk j : Nat) : Int) = 0; omega)
  rw [if_neg h7]
  have h7' : Job.chk j = 0 := Classical.not_not.1 h7
  have e : Job.text j = (Job.txt j, 0) := if_pos h7'
  rw [e] at HT
  have htl := Job.txt_len h7'
  have hbs := Spl.ba_size (Job.txt j)
  have hu := hf.used
  have HU : Hid (∀ W, Below w.heap.size w W → DAt W (.agg CS) d → Calls Tryz.prog 87 #[.agg CS] W fun e w' => e = .returned (.int .i64 ((Dsk.used (Dsk.files d) : Nat) : Int)) ∧ Below W.heap.size W w') := fun W hW hv => used_any _ d W hok hv
  have hwp : ∀ a : Int, 0 ≤ a → a ≤ 10000000 → IntKind.i64.wrap a = a := fun a _ _ => by rw [IntKind.wrap_i64]; omega
  by_cases h8 : ((Dsk.used (Dsk.files d) + x.size + (Job.txt j).length + 60 : Nat) : Int) > d.cap
  · rw [if_pos h8]
    exact may_room s x j CS d w h h1' hS h3 h4' h5 _ HJ h6 (Spl.ba (Job.txt j)) HT _ HU _ _ _ (hwp _ (by omega) (by omega)) (hwp _ (by omega) (by omega)) (hwp _ (by omega) (by omega)) (by omega)
  · rw [if_neg h8]
    exact may_yes s x j CS d w h h1' hS h3 h4' h5 _ HJ h6 (Spl.ba (Job.txt j)) HT _ HU _ _ _ (hwp _ (by omega) (by omega)) (hwp _ (by omega) (by omega)) (hwp _ (by omega) (by omega)) (by omega)
theorem queue_any {m : Nat} (v : Value) (d : Dsk.Dk) (s x : ByteArray) (j : Job.Jb) (w : World) (hf : Spl.Fit m d) (hm : m ≤ 1000000) (hj : JFits s x j) (h : DAt w v d) (hw : Ok w) :
    Calls Tryz.prog 18 #[v, .string s, .agg #[.int .i64 j.g, .int .i64 j.n, .int .i64 j.k, .string j.u, .string j.f, .string j.t, .string j.c, .int .i64 j.z], .string x] w fun e w' => QPost (Spl.queue d s j x) w e w' := by
  obtain ⟨CS, rfl⟩ := h.agg
  have hok := hf.sm.ok
  have hj' : JFits s x (Spl.numbered d j x) := ⟨hj.s, hj.u, hj.f, hj.t, hj.c⟩
  refine queue_core s x j CS d (Spl.lay d s (Spl.numbered d j x) (Spl.may d s (Spl.numbered d j x) x).1 x).1 (Spl.next (Dsk.files d)) (x.size : Int) (Spl.may d s (Spl.numbered d j x) x).2 (Spl.lay d s (Spl.numbered d j x) (Spl.may d s (Spl.numbered d j x) x).1 x).2 (Spl.may d s (Spl.numbered d j x) x).1 w h rfl (fun W hW hv => next_any _ d W hok (Fit.mild hf hm) hv) (fun W hW hv => mayq_any _ d s x (Spl.numbered d j x) W hf hm hj' hv (hw.below hW)) (fun hE W hW hv => ?_) _ ?_
  · rcases Spl.may_cases d s (Spl.numbered d j x) x with ⟨e, he, q⟩ | ⟨hM, q⟩
    · rw [q] at hE; exact absurd hE he
    · have hmay := Nam.may_iff.1 (Job.chk_ok.1 hM.chk).1
      have htl := Job.txt_len hM.chk
      have hbs := Spl.ba_size (Job.txt (Spl.numbered d j x))
      have hxl := hM.len
      exact lay_any _ d s _ x (Spl.numbered d j x) W hf hm hj.s hmay.2.1 hmay.2.2 (by rw [q]; show (Spl.ba _).size ≤ _; omega) (by omega) hv (hw.below hW)
  · show _ = _
    unfold Spl.queue
    dsimp only
    by_cases hE : (Spl.may d s (Spl.numbered d j x) x).2 = 0
    · rw [if_pos hE, if_neg (show ¬ ((Spl.may d s (Spl.numbered d j x) x).2 ≠ 0) from fun q => q hE)]
      by_cases hL : (Spl.lay d s (Spl.numbered d j x) (Spl.may d s (Spl.numbered d j x) x).1 x).2 = 0
      · rw [if_pos hL, if_neg (show ¬ ((Spl.lay d s (Spl.numbered d j x) (Spl.may d s (Spl.numbered d j x) x).1 x).2 ≠ 0) from fun q => q hL)]; rfl
      · rw [if_neg hL, if_pos (show (Spl.lay d s (Spl.numbered d j x) (Spl.may d s (Spl.numbered d j x) x).1 x).2 ≠ 0 from hL)]
    · rw [if_neg hE, if_pos (show (Spl.may d s (Spl.numbered d j x) x).2 ≠ 0 from hE)]
end Go.Proofs.YtmilfamjkiemaaaGreatDoor
