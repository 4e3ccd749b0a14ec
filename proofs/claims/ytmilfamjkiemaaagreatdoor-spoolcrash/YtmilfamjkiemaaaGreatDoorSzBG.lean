/-
  Layer 18: lay of the program.
-/
import Derived.Test.YtmilfamjkiemaaaGreatDoorSzBF
namespace Go.Proofs.YtmilfamjkiemaaaGreatDoor
open Go.RowKit
set_option maxHeartbeats 2000000 in
set_option maxRecDepth 100000 in
theorem lay_core (s t x : ByteArray) (j : Job.Jb) (N1 : Int) (NT F7 F8 : ByteArray) (CS : Array Value) (d d1 d2 d3 d4 : Dsk.Dk) (E1 E2 E3 E4 : Int) (w : World) (hd : DAt w (.agg CS) d)
    (hw1 : IntKind.i64.wrap (j.n + 1) = N1)
    (HT : Hid (∀ W, Below w.heap.size w W → Calls Tryz.prog 64 #[.int .i64 N1] W fun e w' => e = .returned (.string NT) ∧ Below W.heap.size W w'))
    (HF7 : Hid (∀ W, Below w.heap.size w W → Calls Tryz.prog 36 #[.int .i64 67, .string s, .agg #[.int .i64 j.g, .int .i64 j.n]] W fun e w' => e = .returned (.string F7) ∧ Below W.heap.size W w'))
    (HF8 : Hid (∀ W, Below w.heap.size w W → Calls Tryz.prog 36 #[.int .i64 68, .string s, .agg #[.int .i64 j.g, .int .i64 j.n]] W fun e w' => e = .returned (.string F8) ∧ Below W.heap.size W w'))
    (HW1 : Hid (∀ W CS, Below w.heap.size w W → DAt W (.agg CS) d → Calls Tryz.prog 34 #[.agg CS, .string ⟨#[78]⟩, .string NT] W fun e w' => V2Post W (d1, E1) e w'))
    (HW2 : Hid (∀ W CS, Below w.heap.size w W → DAt W (.agg CS) d1 → Calls Tryz.prog 34 #[.agg CS, .string F8, .string x] W fun e w' => V2Post W (d2, E2) e w'))
    (db : Dsk.Dk) (hdb : Hid (db = if j.k ≠ 3 then d2 else d1))
    (HW3 : Hid (∀ W CS, Below w.heap.size w W → DAt W (.agg CS) db → Calls Tryz.prog 34 #[.agg CS, .string F7, .string t] W fun e w' => V2Post W (d3, E3) e w'))
    (HS : Hid (∀ W CS, Below w.heap.size w W → DAt W (.agg CS) d3 → Calls Tryz.prog 71 #[.agg CS] W fun e w' => V2Post W (d4, E4) e w'))
    (r : Dsk.Dk × Int) (hr : Hid (r = if E1 ≠ 0 then (d1, E1) else if j.k ≠ 3 ∧ E2 ≠ 0 then (d2, E2) else if E3 = 0 then (d4, E4) else (d3, E3))) :
    Calls Tryz.prog 48 #[.agg CS, .string s, .agg #[.int .i64 j.g, .int .i64 j.n, .int .i64 j.k, .string j.u, .string j.f, .string j.t, .string j.c, .int .i64 j.z], .string t, .string x] w fun e w' => V2Post w r e w' := by
  obtain ⟨kB, kJ, kR, hb⟩ := boxD3 w CS d hd [.int .i64 j.g, .int .i64 j.n, .int .i64 j.k, .string j.u, .string j.f, .string j.t, .string j.c, .int .i64 j.z] 33
  clear hd
  go_enter Tryz.func48, Tryz.ntmps48
  go_upto_region 1 with fail
  generalize World.alloc _ _ = w1 at *
  obtain ⟨B, hB⟩ : ∃ B, B = w.heap.size := ⟨_, rfl⟩
  obtain ⟨J, hJ⟩ : ∃ J, J = w.heap.size + 1 := ⟨_, rfl⟩
  obtain ⟨R, hR⟩ : ∃ R, R = w.heap.size + 2 := ⟨_, rfl⟩
  rw [← hR] at kR ⊢
  rw [← hJ] at kJ ⊢
  rw [← hB] at kB ⊢
  have hBw : Hid (w.heap.size ≤ B) := by show _ ≤ _; omega
  have nBJ : B ≠ J := by omega
  have nBR : B ≠ R := by omega
  have hJw : Hid (w.heap.size ≤ J) := by show _ ≤ _; omega
  have nJR : J ≠ R := by omega
  have hRw : Hid (w.heap.size ≤ R) := by show _ ≤ _; omega
  clear hB hJ hR
  have kB0 := kB
  have kJ0 := kJ
  have kR0 := kR
  have hb0 := hb
  clear kB kJ kR hb
  refine Rg.beginL (fun (w' : World) => DB B CS d w' ∧ Rg.Bk J [.int .i64 j.g, .int .i64 j.n, .int .i64 j.k, .string j.u, .string j.f, .string j.t, .string j.c, .int .i64 j.z] 33 w') [9, 10, 11] (by kernel_rfl) ?_ (fun hH0 => ?_)
  · exact ⟨kB0.out.drew, kJ0.out.drew⟩
  refine Rg.tlv 0 (some 14) (.agg CS) (fun w hSw => Rg.xload _ _ rfl rfl (hSw.1.ld)) ?_
  refine Rg.tlq 1 (some 15) ?_
  refine Rg.tlq 2 (some 16) ?_
  refine Rg.tlv 3 (some 17) (.int .i64 j.n) ?_ ?_
  · intro w hSw; have c1 : w.cell? ⟨J, 1, none⟩ = some (.int .i64 j.n) := hSw.2.cell 1; clear hSw; go_simp; try with_reducible rfl
  refine Rg.tlv 4 (some 18) (.int .i64 N1) ?_ ?_
  · intro w hSw; clear hSw; go_simp; try with_reducible rfl
  refine Rg.AnyL.one 5 (o := { dst := some 19, op := _, type := _, pos := _, after := _, guard := _ }) (by decide) (fun K hK => ?_)
  go_simp; go_at_call 64; refine (HT.out _ hb0.out.drew).mono ?_; rintro e w1a ⟨rfl, b1a⟩; have kB1a := Rg.hid (kB0.out.drew.below b1a); have kJ1a := Rg.hid (kJ0.out.drew.below b1a kJ0.out.lt); have kR1a := Rg.hid (kR0.out.drew.below b1a); have hb1a := Rg.hid (Rg.chain hb0.out.drew b1a)
  refine hK.out _ _ ?_ (fun hH1 => ?_)
  · exact ⟨kB1a.out, kJ1a.out⟩
  clear hK K hH0
  clear kB0 kJ0 kR0 hb0 b1a hw1
  refine Rg.AnyL.one 6 (o := { dst := some 20, op := _, type := _, pos := _, after := _, guard := _ }) (by decide) (fun K hK => ?_)
  go_simp; go_at_call 34; refine (HW1.out _ _ hb1a.out kB1a.out.dt).mono ?_; rintro e w1b ⟨CS1, rfl, a1b, b1b⟩; have kB1b := Rg.hid (kB1a.out.below b1b.out); have kJ1b := Rg.hid (kJ1a.out.below b1b.out kJ1a.out.lt); have kR1b := Rg.hid (kR1a.out.below b1b.out); have hb1b := Rg.hid (Rg.chain hb1a.out b1b.out); obtain ⟨w1c, st1c, k1c, o1c⟩ := kB1b.out.st a1b.out
  refine hK.out _ _ ?_ (fun hH2 => ?_)
  · exact ⟨kB1b.out, kJ1b.out⟩
  clear hK K hH1
  clear kB1a kJ1a kR1a hb1a b1b
  refine Rg.tlq 7 (some 13) ?_
  refine Rg.tlp 9 (some 22) ?_
  refine Rg.tlq 8 (some 21) ?_
  refine Rg.AnyL.last 10 (o := { dst := none, op := _, type := _, pos := _, after := _, guard := _ }) (by decide) (fun K hK => ?_)
  refine Rg.xstore rfl _ _ _ rfl rfl rfl st1c ?_
  refine hK.out _ _ ?_
  clear hK K hH2
  refine Rg.tlp 11 (some 12) ?_
  refine Rg.AnyL.done ?_
  have kB1 := Rg.hid k1c
  have kJ1 := Rg.hid (kJ1b.out.same (o1c.block J nBJ.symm))
  have kR1 := Rg.hid (kR1b.out.only kB1b.out nBR.symm o1c)
  have hb1 := Rg.hid (hb1b.out.trans (o1c.bel hBw.out))
  clear k1c o1c st1c a1b kB1b kR1b kJ1b hb1b
  dsimp only at kB1
  have c1 : w1c.cell? ⟨J, 2, none⟩ = some (.int .i64 j.k) := kJ1.out.cell 2
  by_cases h1 : E1 = 0
  rotate_left
  · have e0 : (E1 != 0) = true := by rw [bne_iff_ne]; exact h1
    have e1 : (E1 == 0) = false := by simpa using h1
    have hrr : Hid (r = (d1, E1)) := by show _ = _; rw [hr.out, if_pos h1]
    have hl := Rg.hid kB1.out.ld
    obtain ⟨wE, stE, kE, oE⟩ := kR1.out.st kB1.out.dt
    clear hr
    go_wp2_with (first | (with_reducible refine Rg.isld (.tmp 5) 28 ?_; refine Rg.lld (.tmp 5) 28 rfl hl.out ?_) | (with_reducible refine Rg.isst (.tmp 10) (.tmp 54) 28 ?_; refine Rg.lst (.tmp 10) (.tmp 54) 28 rfl rfl stE ?_))
    exact bodyPost_ret (v := .tuple #[.agg CS1, .int .i64 E1]) (Rg.res2 rfl rfl rfl kE.ld) rfl (show V2Post w r _ wE by rw [hrr.out]; exact ⟨CS1, rfl, kE.dt, hb1.out.trans (oE.bel hRw.out)⟩)
  subst h1
  by_cases hk : j.k = 3
  · have ek : (j.k != 3) = false := by simp [hk]
    have hdb1 : db = d1 := by rw [hdb.out, if_neg (by simp [hk])]
    subst hdb1
    go_upto_region 5 with fail
    refine Rg.beginL (fun (w' : World) => DB B CS1 db w' ∧ Rg.Bk J [.int .i64 j.g, .int .i64 j.n, .int .i64 j.k, .string j.u, .string j.f, .string j.t, .string j.c, .int .i64 j.z] 33 w') [9, 10, 11] (by kernel_rfl) ?_ (fun hH0 => ?_)
    · exact ⟨kB1.out.drew, kJ1.out.drew⟩
    refine Rg.tlv 0 (some 43) (.agg CS1) (fun w hSw => Rg.xload _ _ rfl rfl (hSw.1.ld)) ?_
    refine Rg.tlq 1 (some 44) ?_
    refine Rg.tlq 2 (some 45) ?_
    refine Rg.tlv 3 (some 46) (.agg #[.int .i64 j.g, .int .i64 j.n]) (fun w hSw => Rg.xload _ _ rfl rfl (jidld (j := j) hSw.2)) ?_
    refine Rg.tlq 5 (some 48) ?_
    refine Rg.AnyL.one 4 (o := { dst := some 47, op := _, type := _, pos := _, after := _, guard := _ }) (by decide) (fun K hK => ?_)
    go_simp; go_at_call 36; refine (HF7.out _ hb1.out.drew).mono ?_; rintro e w5a ⟨rfl, b5a⟩; have kB5a := Rg.hid (kB1.out.drew.below b5a); have kJ5a := Rg.hid (kJ1.out.drew.below b5a kJ1.out.lt); have kR5a := Rg.hid (kR1.out.drew.below b5a); have hb5a := Rg.hid (Rg.chain hb1.out.drew b5a)
    refine hK.out _ _ ?_ (fun hH1 => ?_)
    · exact ⟨kB5a.out, kJ5a.out⟩
    clear hK K hH0
    clear kB1 kJ1 kR1 hb1 b5a
    refine Rg.AnyL.one 6 (o := { dst := some 49, op := _, type := _, pos := _, after := _, guard := _ }) (by decide) (fun K hK => ?_)
    go_simp; go_at_call 34; refine (HW3.out _ _ hb5a.out kB5a.out.dt).mono ?_; rintro e w5b ⟨CS3, rfl, a5b, b5b⟩; have kB5b := Rg.hid (kB5a.out.below b5b.out); have kJ5b := Rg.hid (kJ5a.out.below b5b.out kJ5a.out.lt); have kR5b := Rg.hid (kR5a.out.below b5b.out); have hb5b := Rg.hid (Rg.chain hb5a.out b5b.out); obtain ⟨w5c, st5c, k5c, o5c⟩ := kB5b.out.st a5b.out
    refine hK.out _ _ ?_ (fun hH2 => ?_)
    · exact ⟨kB5b.out, kJ5b.out⟩
    clear hK K hH1
    clear kB5a kJ5a kR5a hb5a b5b
    refine Rg.tlq 7 (some 42) ?_
    refine Rg.tlp 9 (some 51) ?_
    refine Rg.tlq 8 (some 50) ?_
    refine Rg.AnyL.last 10 (o := { dst := none, op := _, type := _, pos := _, after := _, guard := _ }) (by decide) (fun K hK => ?_)
    refine Rg.xstore rfl _ _ _ rfl rfl rfl st5c ?_
    refine hK.out _ _ ?_
    clear hK K hH2
    refine Rg.tlp 11 (some 12) ?_
    refine Rg.AnyL.done ?_
    have kB5 := Rg.hid k5c
    have kJ5 := Rg.hid (kJ5b.out.same (o5c.block J nBJ.symm))
    have kR5 := Rg.hid (kR5b.out.only kB5b.out nBR.symm o5c)
    have hb5 := Rg.hid (hb5b.out.trans (o5c.bel hBw.out))
    clear k5c o5c st5c a5b kB5b kR5b kJ5b hb5b
    dsimp only at kB5
    by_cases h3 : E3 = 0
    rotate_left
    · have e0 : (E3 != 0) = true := by rw [bne_iff_ne]; exact h3
      have e1 : (E3 == 0) = false := by simpa using h3
      have hrr : Hid (r = (d3, E3)) := by show _ = _; rw [hr.out]; rw [if_neg (by simp), if_neg (by simp [hk])]; rw [if_neg h3]
      have hl := Rg.hid kB5.out.ld
      obtain ⟨wE, stE, kE, oE⟩ := kR5.out.st kB5.out.dt
      clear hr
      go_wp2_with (first | (with_reducible refine Rg.isld (.tmp 5) 28 ?_; refine Rg.lld (.tmp 5) 28 rfl hl.out ?_) | (with_reducible refine Rg.isst (.tmp 10) (.tmp 54) 28 ?_; refine Rg.lst (.tmp 10) (.tmp 54) 28 rfl rfl stE ?_))
      exact bodyPost_ret (v := .tuple #[.agg CS3, .int .i64 E3]) (Rg.res2 rfl rfl rfl kE.ld) rfl (show V2Post w r _ wE by rw [hrr.out]; exact ⟨CS3, rfl, kE.dt, hb5.out.trans (oE.bel hRw.out)⟩)
    · subst h3
      have hrr : Hid (r = (d4, E4)) := by show _ = _; rw [hr.out]; rw [if_neg (by simp), if_neg (by simp [hk])]; rw [if_pos rfl]
      have hl := Rg.hid kB5.out.ld
      clear hr
      go_wp2_with (first | (with_reducible refine Rg.isld (.tmp 5) 28 ?_; refine Rg.lld (.tmp 5) 28 rfl hl.out ?_) | (go_at_call 71; refine (HS.out _ _ hb5.out kB5.out.dt).mono ?_; rintro e w9 ⟨CS4, rfl, a9, b9⟩; obtain ⟨wA, stA, kA, oA⟩ := (kR5.out.below b9.out).st a9.out) | (with_reducible refine Rg.isst (.tmp 10) (.tmp 58) 28 ?_; refine Rg.lst (.tmp 10) (.tmp 58) 28 rfl rfl stA ?_))
      exact bodyPost_ret (v := .tuple #[.agg CS4, .int .i64 E4]) (Rg.res2 rfl rfl rfl kA.ld) rfl (show V2Post w r _ wA by rw [hrr.out]; exact ⟨CS4, rfl, kA.dt, (Rg.chain hb5.out b9.out).trans (oA.bel hRw.out)⟩)
  · have ek : (j.k != 3) = true := by rw [bne_iff_ne]; exact hk
    have hdb1 : db = d2 := by rw [hdb.out, if_pos hk]
    subst hdb1
    go_upto_region 3 with fail
    refine Rg.beginL (fun (w' : World) => DB B CS1 d1 w' ∧ Rg.Bk J [.int .i64 j.g, .int .i64 j.n, .int .i64 j.k, .string j.u, .string j.f, .string j.t, .string j.c, .int .i64 j.z] 33 w') [9, 10, 11] (by kernel_rfl) ?_ (fun hH0 => ?_)
    · exact ⟨kB1.out.drew, kJ1.out.drew⟩
    refine Rg.tlv 0 (some 31) (.agg CS1) (fun w hSw => Rg.xload _ _ rfl rfl (hSw.1.ld)) ?_
    refine Rg.tlq 1 (some 32) ?_
    refine Rg.tlq 2 (some 33) ?_
    refine Rg.tlv 3 (some 34) (.agg #[.int .i64 j.g, .int .i64 j.n]) (fun w hSw => Rg.xload _ _ rfl rfl (jidld (j := j) hSw.2)) ?_
    refine Rg.tlq 5 (some 36) ?_
    refine Rg.AnyL.one 4 (o := { dst := some 35, op := _, type := _, pos := _, after := _, guard := _ }) (by decide) (fun K hK => ?_)
    go_simp; go_at_call 36; refine (HF8.out _ hb1.out.drew).mono ?_; rintro e w3a ⟨rfl, b3a⟩; have kB3a := Rg.hid (kB1.out.drew.below b3a); have kJ3a := Rg.hid (kJ1.out.drew.below b3a kJ1.out.lt); have kR3a := Rg.hid (kR1.out.drew.below b3a); have hb3a := Rg.hid (Rg.chain hb1.out.drew b3a)
    refine hK.out _ _ ?_ (fun hH1 => ?_)
    · exact ⟨kB3a.out, kJ3a.out⟩
    clear hK K hH0
    clear kB1 kJ1 kR1 hb1 b3a
    refine Rg.AnyL.one 6 (o := { dst := some 37, op := _, type := _, pos := _, after := _, guard := _ }) (by decide) (fun K hK => ?_)
    go_simp; go_at_call 34; refine (HW2.out _ _ hb3a.out kB3a.out.dt).mono ?_; rintro e w3b ⟨CS2, rfl, a3b, b3b⟩; have kB3b := Rg.hid (kB3a.out.below b3b.out); have kJ3b := Rg.hid (kJ3a.out.below b3b.out kJ3a.out.lt); have kR3b := Rg.hid (kR3a.out.below b3b.out); have hb3b := Rg.hid (Rg.chain hb3a.out b3b.out); obtain ⟨w3c, st3c, k3c, o3c⟩ := kB3b.out.st a3b.out
    refine hK.out _ _ ?_ (fun hH2 => ?_)
    · exact ⟨kB3b.out, kJ3b.out⟩
    clear hK K hH1
    clear kB3a kJ3a kR3a hb3a b3b
    refine Rg.tlq 7 (some 30) ?_
    refine Rg.tlp 9 (some 39) ?_
    refine Rg.tlq 8 (some 38) ?_
    refine Rg.AnyL.last 10 (o := { dst := none, op := _, type := _, pos := _, after := _, guard := _ }) (by decide) (fun K hK => ?_)
    refine Rg.xstore rfl _ _ _ rfl rfl rfl st3c ?_
    refine hK.out _ _ ?_
    clear hK K hH2
    refine Rg.tlp 11 (some 12) ?_
    refine Rg.AnyL.done ?_
    have kB3 := Rg.hid k3c
    have kJ3 := Rg.hid (kJ3b.out.same (o3c.block J nBJ.symm))
    have kR3 := Rg.hid (kR3b.out.only kB3b.out nBR.symm o3c)
    have hb3 := Rg.hid (hb3b.out.trans (o3c.bel hBw.out))
    clear k3c o3c st3c a3b kB3b kR3b kJ3b hb3b
    dsimp only at kB3
    by_cases h2 : E2 = 0
    rotate_left
    · have e0 : (E2 != 0) = true := by rw [bne_iff_ne]; exact h2
      have e1 : (E2 == 0) = false := by simpa using h2
      have hrr : Hid (r = (db, E2)) := by show _ = _; rw [hr.out, if_neg (by simp), if_pos ⟨hk, h2⟩]
      have hl := Rg.hid kB3.out.ld
      obtain ⟨wE, stE, kE, oE⟩ := kR3.out.st kB3.out.dt
      clear hr
      go_wp2_with (first | (with_reducible refine Rg.isld (.tmp 5) 28 ?_; refine Rg.lld (.tmp 5) 28 rfl hl.out ?_) | (with_reducible refine Rg.isst (.tmp 10) (.tmp 54) 28 ?_; refine Rg.lst (.tmp 10) (.tmp 54) 28 rfl rfl stE ?_))
      exact bodyPost_ret (v := .tuple #[.agg CS2, .int .i64 E2]) (Rg.res2 rfl rfl rfl kE.ld) rfl (show V2Post w r _ wE by rw [hrr.out]; exact ⟨CS2, rfl, kE.dt, hb3.out.trans (oE.bel hRw.out)⟩)
    subst h2
    go_upto_region 5 with fail
    refine Rg.beginL (fun (w' : World) => DB B CS2 db w' ∧ Rg.Bk J [.int .i64 j.g, .int .i64 j.n, .int .i64 j.k, .string j.u, .string j.f, .string j.t, .string j.c, .int .i64 j.z] 33 w') [9, 10, 11] (by kernel_rfl) ?_ (fun hH0 => ?_)
    · exact ⟨kB3.out.drew, kJ3.out.drew⟩
    refine Rg.tlv 0 (some 43) (.agg CS2) (fun w hSw => Rg.xload _ _ rfl rfl (hSw.1.ld)) ?_
    refine Rg.tlq 1 (some 44) ?_
    refine Rg.tlq 2 (some 45) ?_
    refine Rg.tlv 3 (some 46) (.agg #[.int .i64 j.g, .int .i64 j.n]) (fun w hSw => Rg.xload _ _ rfl rfl (jidld (j := j) hSw.2)) ?_
    refine Rg.tlq 5 (some 48) ?_
    refine Rg.AnyL.one 4 (o := { dst := some 47, op := _, type := _, pos := _, after := _, guard := _ }) (by decide) (fun K hK => ?_)
    go_simp; go_at_call 36; refine (HF7.out _ hb3.out.drew).mono ?_; rintro e w5a ⟨rfl, b5a⟩; have kB5a := Rg.hid (kB3.out.drew.below b5a); have kJ5a := Rg.hid (kJ3.out.drew.below b5a kJ3.out.lt); have kR5a := Rg.hid (kR3.out.drew.below b5a); have hb5a := Rg.hid (Rg.chain hb3.out.drew b5a)
    refine hK.out _ _ ?_ (fun hH1 => ?_)
    · exact ⟨kB5a.out, kJ5a.out⟩
    clear hK K hH0
    clear kB3 kJ3 kR3 hb3 b5a
    refine Rg.AnyL.one 6 (o := { dst := some 49, op := _, type := _, pos := _, after := _, guard := _ }) (by decide) (fun K hK => ?_)
    go_simp; go_at_call 34; refine (HW3.out _ _ hb5a.out kB5a.out.dt).mono ?_; rintro e w5b ⟨CS3, rfl, a5b, b5b⟩; have kB5b := Rg.hid (kB5a.out.below b5b.out); have kJ5b := Rg.hid (kJ5a.out.below b5b.out kJ5a.out.lt); have kR5b := Rg.hid (kR5a.out.below b5b.out); have hb5b := Rg.hid (Rg.chain hb5a.out b5b.out); obtain ⟨w5c, st5c, k5c, o5c⟩ := kB5b.out.st a5b.out
    refine hK.out _ _ ?_ (fun hH2 => ?_)
    · exact ⟨kB5b.out, kJ5b.out⟩
    clear hK K hH1
    clear kB5a kJ5a kR5a hb5a b5b
    refine Rg.tlq 7 (some 42) ?_
    refine Rg.tlp 9 (some 51) ?_
    refine Rg.tlq 8 (some 50) ?_
    refine Rg.AnyL.last 10 (o := { dst := none, op := _, type := _, pos := _, after := _, guard := _ }) (by decide) (fun K hK => ?_)
    refine Rg.xstore rfl _ _ _ rfl rfl rfl st5c ?_
    refine hK.out _ _ ?_
    clear hK K hH2
    refine Rg.tlp 11 (some 12) ?_
    refine Rg.AnyL.done ?_
    have kB5 := Rg.hid k5c
    have kJ5 := Rg.hid (kJ5b.out.same (o5c.block J nBJ.symm))
    have kR5 := Rg.hid (kR5b.out.only kB5b.out nBR.symm o5c)
    have hb5 := Rg.hid (hb5b.out.trans (o5c.bel hBw.out))
    clear k5c o5c st5c a5b kB5b kR5b kJ5b hb5b
    dsimp only at kB5
    by_cases h3 : E3 = 0
    rotate_left
    · have e0 : (E3 != 0) = true := by rw [bne_iff_ne]; exact h3
      have e1 : (E3 == 0) = false := by simpa using h3
      have hrr : Hid (r = (d3, E3)) := by show _ = _; rw [hr.out]; rw [if_neg (by simp), if_neg (by simp)]; rw [if_neg h3]
      have hl := Rg.hid kB5.out.ld
      obtain ⟨wE, stE, kE, oE⟩ := kR5.out.st kB5.out.dt
      clear hr
      go_wp2_with (first | (with_reducible refine Rg.isld (.tmp 5) 28 ?_; refine Rg.lld (.tmp 5) 28 rfl hl.out ?_) | (with_reducible refine Rg.isst (.tmp 10) (.tmp 54) 28 ?_; refine Rg.lst (.tmp 10) (.tmp 54) 28 rfl rfl stE ?_))
      exact bodyPost_ret (v := .tuple #[.agg CS3, .int .i64 E3]) (Rg.res2 rfl rfl rfl kE.ld) rfl (show V2Post w r _ wE by rw [hrr.out]; exact ⟨CS3, rfl, kE.dt, hb5.out.trans (oE.bel hRw.out)⟩)
    · subst h3
      have hrr : Hid (r = (d4, E4)) := by show _ = _; rw [hr.out]; rw [if_neg (by simp), if_neg (by simp)]; rw [if_pos rfl]
      have hl := Rg.hid kB5.out.ld
      clear hr
      go_wp2_with (first | (with_reducible refine Rg.isld (.tmp 5) 28 ?_; refine Rg.lld (.tmp 5) 28 rfl hl.out ?_) | (go_at_call 71; refine (HS.out _ _ hb5.out kB5.out.dt).mono ?_; rintro e w9 ⟨CS4, rfl, a9, b9⟩; obtain ⟨wA, stA, kA, oA⟩ := (kR5.out.below b9.out).st a9.out) | (with_reducible refine Rg.isst (.tmp 10) (.tmp 58) 28 ?_; refine Rg.lst (.tmp 10) (.tmp 58) 28 rfl rfl stA ?_))
      exact bodyPost_ret (v := .tuple #[.agg CS4, .int .i64 E4]) (Rg.res2 rfl rfl rfl kA.ld) rfl (show V2Post w r _ wA by rw [hrr.out]; exact ⟨CS4, rfl, kA.dt, (Rg.chain hb5.out b9.out).trans (oA.bel hRw.out)⟩)
end Go.Proofs.YtmilfamjkiemaaaGreatDoor
