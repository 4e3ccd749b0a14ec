/-
  Layer 18: Queue of the program. Layer 18: mathematics: names are short; what a spool's disk is. No walk in it.
-/
import Derived.Test.YtgboghbicbnhiaaGreatDoorSnBF
import Derived.Test.YtgboghbicbnhiaaGreatDoorSnAZ
namespace Go.Proofs.YtgboghbicbnhiaaGreatDoor
open Go.RowKit
theorem idst {R : Nat} {C : List Value} {ty : TypeId} {W : World} (k : Rg.Bk R C ty W) (hl : C.length = 2) (g n : Int) :
    ∃ W', (storeVar 31 ⟨R, 0, none⟩ (.agg #[.int .i64 g, .int .i64 n])).run Tryz.prog W = .ok () W' ∧ Rg.Bk R [.int .i64 g, .int .i64 n] ty W' ∧ Rg.Only R W W' :=
  Rg.row_storeVar (CS := #[.int .i64 g, .int .i64 n]) k idU (by rw [hl]; rfl) (by simp [Value.oneCell'])
theorem DB.onlyI {B R : Nat} {CS : Array Value} {d : Dsk.Dk} {g n : Int} {ty : TypeId} {W W' : World} (h : DB B CS d W) (hr : Rg.Bk R [.int .i64 g, .int .i64 n] ty W) (hne : B ≠ R) (ho : Rg.Only R W W') : DB B CS d W' :=
  ⟨h.bk.same (ho.block B hne), h.dt.only hr (fun u hu s => by simp at hu; rcases hu with rfl | rfl <;> (intro c; cases c)) ho⟩
/-- what Queue answers -/
def QPost (r : Dsk.Dk × (Int × Int) × Int) (w : World) (e : Ending) (w' : World) : Prop := ∃ CS, e = .returned (.tuple #[.agg CS, .agg #[.int .i64 r.2.1.1, .int .i64 r.2.1.2], .int .i64 r.2.2]) ∧ Hid (DAt w' (.agg CS) r.1) ∧ Hid (Below w.heap.size w w')
set_option maxHeartbeats 2000000 in
set_option maxRecDepth 100000 in
theorem queue_core (s x : ByteArray) (j : Job.Jb) (CS : Array Value) (d d1 : Dsk.Dk) (n0 z0 E E1 : Int) (T : ByteArray) (w : World) (h : DAt w (.agg CS) d) (hz : Hid ((x.size : Int) = z0))
    (HN : Hid (∀ W, Below w.heap.size w W → DAt W (.agg CS) d → Calls Tryz.prog 46 #[.agg CS] W fun e w' => e = .returned (.int .i64 n0) ∧ Below W.heap.size W w'))
    (HM : Hid (∀ W, Below w.heap.size w W → DAt W (.agg CS) d → Calls Tryz.prog 47 #[.agg CS, .string s, .agg #[.int .i64 j.g, .int .i64 n0, .int .i64 j.k, .string j.u, .string j.f, .string j.t, .string j.c, .int .i64 z0], .string x] W fun e w' => e = .returned (.tuple #[.string T, .int .i64 E]) ∧ Below W.heap.size W w'))
    (HL : Hid (E = 0 → ∀ W, Below w.heap.size w W → DAt W (.agg CS) d → Calls Tryz.prog 48 #[.agg CS, .string s, .agg #[.int .i64 j.g, .int .i64 n0, .int .i64 j.k, .string j.u, .string j.f, .string j.t, .string j.c, .int .i64 z0], .string T, .string x] W fun e w' => V2Post W (d1, E1) e w'))
    (r : Dsk.Dk × (Int × Int) × Int) (hr : Hid (r = if E ≠ 0 then (d, (0, 0), E) else if E1 ≠ 0 then (d1, (0, 0), E1) else (d1, (j.g, n0), 0))) :
    Calls Tryz.prog 18 #[.agg CS, .string s, .agg #[.int .i64 j.g, .int .i64 j.n, .int .i64 j.k, .string j.u, .string j.f, .string j.t, .string j.c, .int .i64 j.z], .string x] w fun e w' => QPost r w e w' := by
  have kB : Hid (DB w.heap.size CS d ((((w.alloc (.cells CS 28)).alloc (.cells #[.int .i64 j.g, .int .i64 j.n, .int .i64 j.k, .string j.u, .string j.f, .string j.t, .string j.c, .int .i64 j.z] 33)).alloc (.cells #[.slice none 0 0, .slice none 0 0, .int .i64 0, .int .i64 0, .bool false] 28)).alloc (.cells #[.int .i64 0, .int .i64 0] 31))) := (((DB.new h).old _).old _).old _
  have kJ : Hid (Rg.Bk (w.heap.size + 1) [.int .i64 j.g, .int .i64 j.n, .int .i64 j.k, .string j.u, .string j.f, .string j.t, .string j.c, .int .i64 j.z] 33 ((((w.alloc (.cells CS 28)).alloc (.cells #[.int .i64 j.g, .int .i64 j.n, .int .i64 j.k, .string j.u, .string j.f, .string j.t, .string j.c, .int .i64 j.z] 33)).alloc (.cells #[.slice none 0 0, .slice none 0 0, .int .i64 0, .int .i64 0, .bool false] 28)).alloc (.cells #[.int .i64 0, .int .i64 0] 31))) := ((Rg.Bk.new (by simp)).old _).old _
  have kR : Hid (DB (w.heap.size + 2) zcD zdk ((((w.alloc (.cells CS 28)).alloc (.cells #[.int .i64 j.g, .int .i64 j.n, .int .i64 j.k, .string j.u, .string j.f, .string j.t, .string j.c, .int .i64 j.z] 33)).alloc (.cells #[.slice none 0 0, .slice none 0 0, .int .i64 0, .int .i64 0, .bool false] 28)).alloc (.cells #[.int .i64 0, .int .i64 0] 31))) := DB.old ⟨Rg.Bk.new (by simp), zdk_at _⟩ _
  have kD : Hid (Rg.Bk (w.heap.size + 3) [.int .i64 0, .int .i64 0] 31 ((((w.alloc (.cells CS 28)).alloc (.cells #[.int .i64 j.g, .int .i64 j.n, .int .i64 j.k, .string j.u, .string j.f, .string j.t, .string j.c, .int .i64 j.z] 33)).alloc (.cells #[.slice none 0 0, .slice none 0 0, .int .i64 0, .int .i64 0, .bool false] 28)).alloc (.cells #[.int .i64 0, .int .i64 0] 31))) := Rg.Bk.new (by simp)
  have hb := Rg.hid (Rg.al4 w (.cells CS 28) (.cells #[.int .i64 j.g, .int .i64 j.n, .int .i64 j.k, .string j.u, .string j.f, .string j.t, .string j.c, .int .i64 j.z] 33) (.cells #[.slice none 0 0, .slice none 0 0, .int .i64 0, .int .i64 0, .bool false] 28) (.cells #[.int .i64 0, .int .i64 0] 31))
  have h0 := Rg.hid h
  clear h
  go_enter Tryz.func18, Tryz.ntmps18
  go_upto_region 1 with fail
  generalize World.alloc _ _ = w1 at *
  obtain ⟨B, hB⟩ : ∃ B, B = w.heap.size := ⟨_, rfl⟩
  obtain ⟨J, hJ⟩ : ∃ J, J = w.heap.size + 1 := ⟨_, rfl⟩
  obtain ⟨R, hR⟩ : ∃ R, R = w.heap.size + 2 := ⟨_, rfl⟩
  obtain ⟨D, hD⟩ : ∃ D, D = w.heap.size + 3 := ⟨_, rfl⟩
  rw [← hD] at kD ⊢
  rw [← hR] at kR ⊢
  rw [← hJ] at kJ ⊢
  rw [← hB] at kB ⊢
  have hBw : Hid (w.heap.size ≤ B) := by show _ ≤ _; omega
  have nBJ : B ≠ J := by omega
  have nBR : B ≠ R := by omega
  have nBD : B ≠ D := by omega
  have hJw : Hid (w.heap.size ≤ J) := by show _ ≤ _; omega
  have nJR : J ≠ R := by omega
  have nJD : J ≠ D := by omega
  have hRw : Hid (w.heap.size ≤ R) := by show _ ≤ _; omega
  have nRD : R ≠ D := by omega
  have hDw : Hid (w.heap.size ≤ D) := by show _ ≤ _; omega
  clear hB hJ hR hD
  have hl1 := Rg.hid kB.out.ld
  have hz0 := hz
  go_upto_region 2 with (first | (with_reducible refine Rg.isld (.tmp 4) 28 ?_; refine Rg.lld (.tmp 4) 28 rfl hl1.out ?_) | (go_at_call 46; refine (HN.out _ hb.out kB.out.dt).mono ?_; rintro e w2 ⟨rfl, b2⟩; have kJ2 := Rg.hid (kJ.out.below b2 kJ.out.lt); have j1 : w2.cell? ⟨J, 1, none⟩ = some (.int .i64 j.n) := kJ2.out.cell 1; have j7 : w2.cell? ⟨J, 7, none⟩ = some (.int .i64 j.z) := kJ2.out.cell 7; have jf := kJ2.out.thaw; have jl := kJ2.out.lt))
  have kJ3 : Hid (Rg.Bk J [.int .i64 j.g, .int .i64 n0, .int .i64 j.k, .string j.u, .string j.f, .string j.t, .string j.c, .int .i64 z0] 33 ((w2.setCell ⟨J, 1, none⟩ (.int .i64 n0)).setCell ⟨J, 7, none⟩ (.int .i64 (x.size : Int)))) := by
    have := (kJ2.out.set 1 (.int .i64 n0)).set 7 (.int .i64 (x.size : Int))
    rw [hz.out] at this ⊢
    exact this
  have oJ : Rg.Only J w2 ((w2.setCell ⟨J, 1, none⟩ (.int .i64 n0)).setCell ⟨J, 7, none⟩ (.int .i64 (x.size : Int))) := (Rg.Only.setCell w2 J 1 _).trans (Rg.Only.setCell _ J 7 _)
  generalize World.setCell _ _ _ = w3 at *
  have hb3 : Hid (Below w.heap.size w w3) := (Rg.chain hb.out b2).trans (oJ.bel hJw.out)
  have kB3 : Hid (DB B CS d w3) := ⟨(kB.out.below b2).bk.same (oJ.block B nBJ), h0.out.below hb3.out⟩
  have kR3 : Hid (DB R zcD zdk w3) := ⟨(kR.out.below b2).bk.same (oJ.block R nJR.symm), zdk_at _⟩
  have kD3 : Hid (Rg.Bk D [.int .i64 0, .int .i64 0] 31 w3) := (kD.out.below b2 kD.out.lt).same (oJ.block D nJD.symm)
  clear kB kJ kR kD hb b2 kJ2 j1 j7 jf jl oJ hl1 h0 HN hz hz0
  have hl3 := Rg.hid kB3.out.ld
  have hlj3 : Hid ((loadVar 33 ⟨J, 0, none⟩).run Tryz.prog w3 = .ok (.agg #[.int .i64 j.g, .int .i64 n0, .int .i64 j.k, .string j.u, .string j.f, .string j.t, .string j.c, .int .i64 z0]) w3) := jld (j := ⟨j.g, n0, j.k, j.u, j.f, j.t, j.c, z0⟩) kJ3.out
  go_upto_region 3 with (first | (with_reducible refine Rg.isld (.tmp 4) 28 ?_; refine Rg.lld (.tmp 4) 28 rfl hl3.out ?_) | (with_reducible refine Rg.isld (.tmp 6) 33 ?_; refine Rg.lld (.tmp 6) 33 rfl hlj3.out ?_) | (go_at_call 47; refine (HM.out _ hb3.out kB3.out.dt).mono ?_; rintro e w4 ⟨rfl, b4⟩))
  have kB4 := Rg.hid (kB3.out.below b4)
  have kR4 := Rg.hid (kR3.out.below b4)
  have kD4 := Rg.hid (kD3.out.below b4 kD3.out.lt)
  have kJ4 := Rg.hid (kJ3.out.below b4 kJ3.out.lt)
  have hb4 := Rg.hid (Rg.chain hb3.out b4)
  clear kB3 kR3 kD3 kJ3 hb3 b4 hl3 hlj3 HM
  have hl4 := Rg.hid kB4.out.ld
  by_cases hE : E = 0
  rotate_left
  · have e0 : (E != 0) = true := by rw [bne_iff_ne]; exact hE
    have hrr : Hid (r = (d, (0, 0), E)) := by show _ = _; rw [hr.out, if_pos hE]
    obtain ⟨w5, st5, k5, o5⟩ := kR4.out.st kB4.out.dt
    have kD5 := Rg.hid (kD4.out.same (o5.block D nRD.symm))
    obtain ⟨w6, st6, k6, o6⟩ := idst kD5.out rfl 0 0
    have k7 := Rg.hid (k5.onlyI kD5.out nRD o6)
    clear hr HL
    go_wp2_with (first | (with_reducible refine Rg.isld (.tmp 4) 28 ?_; refine Rg.lld (.tmp 4) 28 rfl hl4.out ?_) | (with_reducible refine Rg.isst (.tmp 8) (.tmp 31) 28 ?_; refine Rg.lst (.tmp 8) (.tmp 31) 28 rfl rfl st5 ?_) | (with_reducible refine Rg.isst (.tmp 9) (.tmp 32) 31 ?_; refine Rg.lst (.tmp 9) (.tmp 32) 31 rfl rfl st6 ?_))
    exact bodyPost_ret (v := .tuple #[.agg CS, .agg #[.int .i64 0, .int .i64 0], .int .i64 E]) (Rg.rescc rfl rfl rfl rfl k7.out.ld (idld k6)) rfl (show QPost r w _ w6 by rw [hrr.out]; exact ⟨CS, rfl, k7.out.dt, (hb4.out.trans (o5.bel hRw.out)).trans (o6.bel hDw.out)⟩)
  subst hE
  have hlj4 : Hid ((loadVar 33 ⟨J, 0, none⟩).run Tryz.prog w4 = .ok (.agg #[.int .i64 j.g, .int .i64 n0, .int .i64 j.k, .string j.u, .string j.f, .string j.t, .string j.c, .int .i64 z0]) w4) := jld (j := ⟨j.g, n0, j.k, j.u, j.f, j.t, j.c, z0⟩) kJ4.out
  go_upto_region 6 with (first | (with_reducible refine Rg.isld (.tmp 4) 28 ?_; refine Rg.lld (.tmp 4) 28 rfl hl4.out ?_) | (with_reducible refine Rg.isld (.tmp 6) 33 ?_; refine Rg.lld (.tmp 6) 33 rfl hlj4.out ?_) | (go_at_call 48; refine (HL.out rfl _ hb4.out kB4.out.dt).mono ?_; rintro e w5 ⟨CS1, rfl, a5, b5⟩; obtain ⟨w6, st6, k6, o6⟩ := (show DB w5.heap.size zcD zdk (w5.alloc (.cells #[.slice none 0 0, .slice none 0 0, .int .i64 0, .int .i64 0, .bool false] 28)) from ⟨Rg.Bk.new rfl, zdk_at _⟩).st (a5.out.below (Rg.al1 w5 (.cells #[.slice none 0 0, .slice none 0 0, .int .i64 0, .int .i64 0, .bool false] 28)))) | (with_reducible refine Rg.isst (.tmp 13) (.tmp 41) 28 ?_; refine Rg.lst (.tmp 13) (.tmp 41) 28 rfl rfl st6 ?_))
  have b56 : Below w5.heap.size w5 w6 := (Rg.al1 w5 (.cells #[.slice none 0 0, .slice none 0 0, .int .i64 0, .int .i64 0, .bool false] 28)).trans (o6.bel (Nat.le_refl _))
  have kR6 : Hid (DB R zcD zdk w6) := ⟨((kR4.out.below b5.out).below b56).bk, zdk_at _⟩
  have kD6 := Rg.hid ((kD4.out.below b5.out kD4.out.lt).below b56 (Nat.lt_of_lt_of_le kD4.out.lt b5.out.size))
  have kJ6 := Rg.hid ((kJ4.out.below b5.out kJ4.out.lt).below b56 (Nat.lt_of_lt_of_le kJ4.out.lt b5.out.size))
  have hb6 := Rg.hid (Rg.chain (Rg.chain hb4.out b5.out) b56)
  have k6' := Rg.hid k6
  obtain ⟨X, hX⟩ : ∃ X, X = w5.heap.size := ⟨_, rfl⟩
  have nRX : R ≠ X := by rw [hX]; exact Nat.ne_of_lt (Nat.lt_of_lt_of_le kR4.out.lt b5.out.size)
  have nDX : D ≠ X := by rw [hX]; exact Nat.ne_of_lt (Nat.lt_of_lt_of_le kD4.out.lt b5.out.size)
  have hXw : Hid (w.heap.size ≤ X) := by show _ ≤ _; rw [hX]; exact (Rg.chain hb4.out b5.out).size
  rw [← hX] at k6' ⊢
  clear hX k6 o6 st6 a5 b5 b56 kB4 kR4 kD4 kJ4 hb4 hl4 hlj4 HL
  try dsimp only at k6'
  have hl6 := Rg.hid k6'.out.ld
  by_cases hE : E1 = 0
  rotate_left
  · have e0 : (E1 != 0) = true := by rw [bne_iff_ne]; exact hE
    have hrr : Hid (r = (d1, (0, 0), E1)) := by show _ = _; rw [hr.out, if_neg (by simp), if_pos hE]
    obtain ⟨w7, st7, k7, o7⟩ := kR6.out.st k6'.out.dt
    have kD7 := Rg.hid (kD6.out.same (o7.block D nRD.symm))
    obtain ⟨w8, st8, k8, o8⟩ := idst kD7.out rfl 0 0
    have k9 := Rg.hid (k7.onlyI kD7.out nRD o8)
    clear hr
    go_wp2_with (first | (with_reducible refine Rg.isld (.tmp 13) 28 ?_; refine Rg.lld (.tmp 13) 28 rfl hl6.out ?_) | (with_reducible refine Rg.isst (.tmp 8) (.tmp 45) 28 ?_; refine Rg.lst (.tmp 8) (.tmp 45) 28 rfl rfl st7 ?_) | (with_reducible refine Rg.isst (.tmp 9) (.tmp 46) 31 ?_; refine Rg.lst (.tmp 9) (.tmp 46) 31 rfl rfl st8 ?_))
    exact bodyPost_ret (v := .tuple #[.agg CS1, .agg #[.int .i64 0, .int .i64 0], .int .i64 E1]) (Rg.rescc rfl rfl rfl rfl k9.out.ld (idld k8)) rfl (show QPost r w _ w8 by rw [hrr.out]; exact ⟨CS1, rfl, k9.out.dt, (hb6.out.trans (o7.bel hRw.out)).trans (o8.bel hDw.out)⟩)
  subst hE
  have hrr : Hid (r = (d1, (j.g, n0), 0)) := by show _ = _; rw [hr.out, if_neg (by simp), if_neg (by simp)]
  clear hr hl6
  go_upto_region 8 with fail
  refine Rg.beginL (fun (w' : World) => DB X CS1 d1 w' ∧ Rg.Bk J [.int .i64 j.g, .int .i64 n0, .int .i64 j.k, .string j.u, .string j.f, .string j.t, .string j.c, .int .i64 z0] 33 w') [] (by kernel_rfl) ?_ (fun hH0 => ?_)
  · exact ⟨k6'.out.drew, kJ6.out.drew⟩
  refine Rg.tlv 0 (some 48) (.agg CS1) (fun w hSw => Rg.xload _ _ rfl rfl (hSw.1.ld)) ?_
  refine Rg.tlq 1 (some 49) ?_
  refine Rg.tlv 2 (some 50) (.agg #[.int .i64 j.g, .int .i64 n0]) (fun w hSw => Rg.xload _ _ rfl rfl (jidld (j := ⟨j.g, n0, j.k, j.u, j.f, j.t, j.c, z0⟩) hSw.2)) ?_
  obtain ⟨w7, st7, k7, o7⟩ := kR6.out.drew.st k6'.out.drew.dt
  have kD7 := Rg.hid (kD6.out.drew.same (o7.block D nRD.symm))
  obtain ⟨w8, st8, k8, o8⟩ := idst kD7.out rfl j.g n0
  have k9 := Rg.hid (k7.onlyI kD7.out nRD o8)
  have kX7 := Rg.hid (k6'.out.drew.only kR6.out.drew nRX.symm o7)
  have kJ7 := Rg.hid (kJ6.out.drew.same (o7.block J nJR))
  have kX8 := Rg.hid (kX7.out.onlyI kD7.out nDX.symm o8)
  have kJ8 := Rg.hid (kJ7.out.same (o8.block J nJD))
  refine Rg.AnyL.one 3 (o := { dst := none, op := _, type := _, pos := _, after := _, guard := _ }) (by decide) (fun K hK => ?_)
  refine Rg.xstore rfl _ _ _ rfl rfl rfl st7 ?_
  refine hK.out _ _ ?_ (fun hH1 => ?_)
  · exact ⟨kX7.out, kJ7.out⟩
  clear hK K hH0
  try simp only [Act.put]
  refine Rg.AnyL.one 4 (o := { dst := none, op := _, type := _, pos := _, after := _, guard := _ }) (by decide) (fun K hK => ?_)
  refine Rg.xstore rfl _ _ _ rfl rfl rfl st8 ?_
  refine hK.out _ _ ?_ (fun hH2 => ?_)
  · exact ⟨kX8.out, kJ8.out⟩
  clear hK K hH1
  try simp only [Act.put]
  refine Rg.tlq 5 (some 10) ?_
  refine Rg.AnyL.done ?_
  go_wp2
  exact bodyPost_ret (v := .tuple #[.agg CS1, .agg #[.int .i64 j.g, .int .i64 n0], .int .i64 0]) (Rg.rescc rfl rfl rfl rfl k9.out.ld (idld k8)) rfl (show QPost r w _ w8 by rw [hrr.out]; exact ⟨CS1, rfl, k9.out.dt, (hb6.out.drew.trans (o7.bel hRw.out)).trans (o8.bel hDw.out)⟩)
end Go.Proofs.YtgboghbicbnhiaaGreatDoor

namespace Go.Proofs.YtgboghbicbnhiaaGreatDoor
namespace Spl
open Dsk

/-- an operation with short names -/
def Sh (o : Dop) : Prop := o.n.size ≤ 30 ∧ o.t.size ≤ 30
theorem after_sh {l : List Fl} {o : Dop} (h : ∀ x ∈ l, x.n.size ≤ 30) (ho : Sh o) : ∀ x ∈ after l o, x.n.size ≤ 30 := by
  have hp : ∀ {m : List Fl} {f : Fl}, (∀ x ∈ m, x.n.size ≤ 30) → f.n.size ≤ 30 → ∀ x ∈ put m f, x.n.size ≤ 30 := fun h hf x hx => by
    rcases put_mem hx with e | e
    · rw [e]; exact hf
    · exact h x e
  have hc : ∀ {m : List Fl} {n : ByteArray}, (∀ x ∈ m, x.n.size ≤ 30) → ∀ x ∈ cut m n, x.n.size ≤ 30 := fun h x hx => h x (cut_mem hx)
  unfold after
  split
  · exact hp h ho.1
  · split
    · exact hp h ho.1
    · split
      · split
        · exact h
        · split
          · exact h
          · exact hp (hc h) ho.2
      · split
        · exact hc h
        · exact h
theorem behind_sh : ∀ {l : List Fl} (ops : List Dop), (∀ x ∈ l, x.n.size ≤ 30) → (∀ o ∈ ops, Sh o) → ∀ x ∈ behind l ops, x.n.size ≤ 30
  | _, [], h, _ => h
  | l, o :: ops, h, ho => behind_sh (l := after l o) ops (after_sh h (ho o (List.mem_cons_self ..))) (fun x hx => ho x (List.mem_cons_of_mem _ hx))
structure NS (d : Dk) : Prop where
  safe : ∀ f ∈ d.safe, f.n.size ≤ 30
  ops : ∀ o ∈ d.ops, Sh o
theorem NS.files {d : Dk} (h : NS d) : ∀ f ∈ files d, f.n.size ≤ 30 := by
  unfold Dsk.files
  split
  · intro f hf; cases hf
  · exact behind_sh _ h.safe h.ops
theorem fn_sh (k : Int) (s : ByteArray) (g n : Int) : (fn k s g n).size ≤ 30 := by
  by_cases v : Nam.fk k = true ∧ Nam.system s.data.toList = true ∧ Nam.may g n = true
  · have := fn_isName v.1 v.2.1 v.2.2
    unfold isName at this
    simp only [Bool.and_eq_true, decide_eq_true_eq] at this
    exact this.2.2
  · rw [fn_bad v]; exact Nat.zero_le _
theorem NS.down {d : Dk} {l : List Dop} {q : Dk × Int} (h : NS d) (hl : ∀ o ∈ l, Sh o) (hq : Down d l q) : NS q.1 := by
  obtain ⟨_, i, _, rfl⟩ := hq
  refine ⟨h.safe, fun o ho => ?_⟩
  rcases List.mem_append.1 ho with c | c
  · exact h.ops o c
  · exact hl o (List.mem_of_mem_take c)
theorem NS.safed {d : Dk} {l : List Dop} {q : Dk × Int} (h : NS d) (hl : ∀ o ∈ l, Sh o) (hq : Safe d l q) : NS q.1 := by
  obtain ⟨f, _, _, _, rfl⟩ := hq
  refine ⟨behind_sh _ h.safe (fun o ho => ?_), fun o ho => by cases ho⟩
  rcases List.mem_append.1 ho with c | c
  · exact h.ops o c
  · exact hl o c
theorem sh_opsQ (s : ByteArray) (j : Job.Jb) (t x : ByteArray) : ∀ o ∈ opsQ s j t x, Sh o := by
  intro o ho
  unfold opsQ at ho
  simp only [List.mem_cons, List.mem_append] at ho
  rcases ho with rfl | ho | rfl | ho
  · exact ⟨show numF.size ≤ 30 by decide, Nat.zero_le _⟩
  · split at ho
    · cases ho
    · rw [List.mem_singleton] at ho; subst ho; exact ⟨fn_sh _ _ _ _, Nat.zero_le _⟩
  · exact ⟨fn_sh _ _ _ _, Nat.zero_le _⟩
  · cases ho
theorem sh_opsL {d : Dk} {s : ByteArray} {g n : Int} {o : Dop} (ho : o = rm (fn 67 s g n) ∨ o = mv (fn 67 s g n) (fn 69 s g n)) : ∀ u ∈ opsL d s g n o, Sh u := by
  intro u hu
  unfold opsL at hu
  rcases List.mem_cons.1 hu with rfl | hu
  · rcases ho with rfl | rfl
    · exact ⟨fn_sh _ _ _ _, Nat.zero_le _⟩
    · exact ⟨fn_sh _ _ _ _, fn_sh _ _ _ _⟩
  · split at hu
    · rw [List.mem_singleton] at hu; subst hu; exact ⟨fn_sh _ _ _ _, Nat.zero_le _⟩
    · cases hu

/-- a spool's disk -/
structure Fit (m : Nat) (d : Dk) : Prop where
  sm : Small m d
  ns : NS d
theorem Fit.mono {m m' : Nat} {d : Dk} (h : Fit m d) (hm : m ≤ m') : Fit m' d := ⟨h.sm.mono hm, h.ns⟩
theorem Fit.new (n : Int) : Fit 0 (Dsk.new n) := ⟨Small.new n, (fun f hf => by cases hf), (fun o ho => by cases ho)⟩
theorem Fit.arm {m : Nat} {d : Dk} (h : Fit m d) (n : Int) (hn : n ≤ 9223372036854775807) : Fit m (Dsk.arm d n) := ⟨h.sm.arm n hn, h.ns.safe, h.ns.ops⟩
theorem Fit.crash {m : Nat} {d : Dk} (h : Fit m d) (n : Int) : Fit m (Dsk.start (Dsk.crash d n)) := ⟨h.sm.crash n, behind_sh _ h.ns.safe (fun o ho => h.ns.ops o (List.mem_of_mem_take ho)), (fun o ho => by cases ho)⟩
theorem Fit.queue {m : Nat} {d : Dk} {s : ByteArray} {j : Job.Jb} {x : ByteArray} (h : Fit m d) (hm : m ≤ 1000000) : Fit (m + 6300) (Spl.queue d s j x).1 := by
  refine ⟨h.sm.queue hm, ?_⟩
  rcases queue_cases d s j x h.sm.ok.fuse h.sm.ok.fuse' with ⟨e, _, q⟩ | ⟨_, r, hr, q⟩ | ⟨_, r, hr, q⟩
  · rw [q]; exact h.ns
  · rw [q]; exact h.ns.down (sh_opsQ _ _ _ _) hr
  · rw [q]; exact h.ns.safed (sh_opsQ _ _ _ _) hr
theorem Fit.left {m : Nat} {d : Dk} {s : ByteArray} {g n : Int} {o : Dop} {r : Dk × Int} (h : Fit m d) (hm : m ≤ 1000000) (ho : o = rm (fn 67 s g n) ∨ o = mv (fn 67 s g n) (fn 69 s g n)) (hr : Left d s g n o r) : Fit (m + 6300) r.1 := by
  refine ⟨h.sm.left hm ho hr, ?_⟩
  rcases hr with ⟨e, _, _, q⟩ | ⟨_, q | q⟩
  · rw [q]; exact h.ns
  · exact h.ns.down (sh_opsL ho) q
  · exact h.ns.safed (sh_opsL ho) q
theorem Fit.done {m : Nat} {d : Dk} (h : Fit m d) (hm : m ≤ 1000000) (s : ByteArray) (g n : Int) : Fit (m + 6300) (Spl.done d s g n).1 :=
  h.left hm (.inl rfl) (done_cases d s g n h.sm.cl h.sm.ok.fuse h.sm.ok.fuse')
theorem Fit.fail {m : Nat} {d : Dk} (h : Fit m d) (hm : m ≤ 1000000) (s : ByteArray) (g n : Int) : Fit (m + 6300) (Spl.fail d s g n).1 :=
  h.left hm (.inr rfl) (fail_cases d s g n h.sm.cl h.sm.ok.fuse h.sm.ok.fuse')
theorem used_mem : ∀ {l : List Fl} {f : Fl}, f ∈ l → f.d.size + 16 ≤ used l
  | a :: l, f, h => by
    rcases List.mem_cons.1 h with rfl | h
    · simp only [used]; omega
    · have := used_mem h; simp only [used]; omega
theorem Fit.used {m : Nat} {d : Dk} (h : Fit m d) : used (files d) ≤ m := by
  have h1 := h.sm.wt
  unfold Dsk.Wt at h1
  unfold Dsk.files
  split
  · exact Nat.zero_le _
  · have := used_behind d.safe d.ops; omega
/-- calls of one file leave a disk that may be -/
theorem write_ok {d : Dk} (h : Dsk.Ok d) (n x : ByteArray) (hw : Dsk.Wt d + x.size + 16 ≤ 10000000000) : Dsk.Ok (write d n x).1 ∧ Dsk.Wt (write d n x).1 ≤ Dsk.Wt d + x.size + 16 :=
  play_ok h ⟨1, n, ⟨#[]⟩, x, 0⟩ hw (by show (0 : Int) ≤ _; omega)
theorem remove_ok {d : Dk} (h : Dsk.Ok d) (n : ByteArray) (hw : Dsk.Wt d + 16 ≤ 10000000000) : Dsk.Ok (remove d n).1 :=
  (play_ok h ⟨4, n, ⟨#[]⟩, ⟨#[]⟩, 0⟩ (by show Dsk.Wt d + 0 + 16 ≤ _; omega) (by show (0 : Int) ≤ _; omega)).1
theorem rename_ok {d : Dk} (h : Dsk.Ok d) (n t : ByteArray) (hw : Dsk.Wt d + 16 ≤ 10000000000) : Dsk.Ok (rename d n t).1 :=
  (play_ok h ⟨3, n, t, ⟨#[]⟩, 0⟩ (by show Dsk.Wt d + 0 + 16 ≤ _; omega) (by show (0 : Int) ≤ _; omega)).1
end Spl
end Go.Proofs.YtgboghbicbnhiaaGreatDoor
