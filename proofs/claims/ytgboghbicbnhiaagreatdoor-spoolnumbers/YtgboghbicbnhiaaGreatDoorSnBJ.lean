/-
  Layer 18: SpoolNumbers' walk. What the rows of this seat list of package variables; the world for the witness; the table of powers of ten; bytealg.MaxLen holds some number.
-/
import Derived.Test.YtgboghbicbnhiaaGreatDoorSnAJ
import Derived.Test.YtgboghbicbnhiaaGreatDoorSnBI
import Derived.Test.YtgboghbicbnhiaaGreatDoorCards
import Derived.Test.YtgboghbicbnhiaaGreatDoorTie
import Derived.ProofKit
import Derived.OpenShut
import Derived.Deep.DeepHandedRow
import Derived.Lay
import Derived.MakeChecks
import Derived.Shelf.Vars
import Derived.Lib.LaidTab
namespace Go.Proofs.YtgboghbicbnhiaaGreatDoor
open Go.RowKit
namespace Spl
/-- no number above B was given, and none up to it is given again -/
structure NumI (m : Nat) (B : Int) (ks : List Int) (d : Dsk.Dk) : Prop where
  fit : Fit m d
  num : Num B d
  ks : ∀ n ∈ ks, n ≤ B
theorem NumI.new (n : Int) : NumI 0 0 [] (Dsk.new n) := ⟨Fit.new n, Num.new n, fun n hn => by cases hn⟩
theorem NumI.done {m : Nat} {B : Int} {ks : List Int} {d : Dsk.Dk} (h : NumI m B ks d) (hm : m ≤ 1000000) (s : ByteArray) (g n : Int) : NumI (m + 6300) B ks (Spl.done d s g n).1 :=
  ⟨h.fit.done hm s g n, h.num.left h.fit.sm.cl.srt (.inl rfl) (done_cases d s g n h.fit.sm.cl h.fit.sm.ok.fuse h.fit.sm.ok.fuse'), h.ks⟩
theorem NumI.fail {m : Nat} {B : Int} {ks : List Int} {d : Dsk.Dk} (h : NumI m B ks d) (hm : m ≤ 1000000) (s : ByteArray) (g n : Int) : NumI (m + 6300) B ks (Spl.fail d s g n).1 :=
  ⟨h.fit.fail hm s g n, h.num.left h.fit.sm.cl.srt (.inr rfl) (fail_cases d s g n h.fit.sm.cl h.fit.sm.ok.fuse h.fit.sm.ok.fuse'), h.ks⟩
theorem NumI.crash {m : Nat} {B : Int} {ks : List Int} {d : Dsk.Dk} (h : NumI m B ks d) (n : Int) : NumI (m + 6300) B ks (Dsk.start (Dsk.crash d n)) := ⟨(h.fit.crash n).mono (by omega), h.num.crash n, h.ks⟩
theorem NumI.arm {m : Nat} {B : Int} {ks : List Int} {d : Dsk.Dk} (h : NumI m B ks d) (n : Int) (hn : n ≤ 9223372036854775807) : NumI (m + 6300) B ks (Dsk.arm d n) := ⟨(h.fit.arm n hn).mono (by omega), h.num, h.ks⟩
theorem NumI.queue {m : Nat} {B : Int} {ks : List Int} {d : Dsk.Dk} (h : NumI m B ks d) (hm : m ≤ 1000000) (s : ByteArray) (j : Job.Jb) (x : ByteArray) :
    ((Spl.queue d s j x).2.2 ≠ 0 ∧ NumI (m + 6300) B ks (Spl.queue d s j x).1) ∨ ((Spl.queue d s j x).2.2 = 0 ∧ (Spl.queue d s j x).2.1.2 ∉ ks ∧ NumI (m + 6300) (Spl.queue d s j x).2.1.2 (ks ++ [(Spl.queue d s j x).2.1.2]) (Spl.queue d s j x).1) := by
  rcases Num.queue (s := s) (j := j) (x := x) h.fit.sm h.num with ⟨h1, h2⟩ | ⟨h1, h2, h3⟩
  · exact .inl ⟨h1, h.fit.queue hm, h2, h.ks⟩
  · refine .inr ⟨h1, fun c => ?_, h.fit.queue hm, h3, fun n hn => ?_⟩
    · have := h.ks _ c; omega
    · rcases List.mem_append.1 hn with c | c
      · have := h.ks _ c; omega
      · rw [List.mem_singleton] at c; omega
end Spl
set_option maxHeartbeats 2000000 in
set_option maxRecDepth 100000 in
theorem numbers_walk (a : Option Addr) (ca : Nat) (l : List Spl.SOp) (hn : l.length ≤ maxLen) (hfit : ∀ c ∈ l, SFits c) (w : World) (hrow : SRow0 w a l) (hw : Ok w) :
    Calls Tryz.prog 5 #[.slice a l.length ca] w fun e w' => e = .returned (.bool true) ∧ Below w.heap.size w w' := by
  have HFr : Hid (Calls Tryz.prog 8 #[.slice a l.length ca] w fun e w' => FarPost l.length w e w') := far_any a ca l w hn hfit hrow
  have HA : Hid (∀ W, Below w.heap.size w W → Calls Tryz.prog 9 #[] W fun e w' => e = .returned (.bool true) ∧ Below w.heap.size w w') := fun W hW => (sawake_any W (hw.below hW)).mono fun e w' ⟨h1, h2⟩ => ⟨h1, Rg.chain hW h2⟩
  have HN : Hid (∀ W, Calls Tryz.prog 10 #[.int .i64 60000] W fun e w' => e = .returned (.agg #[.slice none 0 0, .slice none 0 0, .int .i64 60000, .int .i64 (-1), .bool false]) ∧ Below W.heap.size W w') := fun W => new_any 60000 W
  have hDn : Hid (∀ W, DAt W (.agg #[.slice none 0 0, .slice none 0 0, .int .i64 60000, .int .i64 (-1), .bool false]) (Dsk.new 60000)) := fun W => ⟨none, 0, none, 0, rfl, .inl ⟨rfl, rfl⟩, .inl ⟨rfl, rfl⟩, Nat.le_refl _, Nat.le_refl _⟩
  have hI0 := Rg.hid (Spl.NumI.new 60000)
  generalize Dsk.new 60000 = d0 at *
  obtain ⟨N, hN⟩ : ∃ N, N = l.length := ⟨_, rfl⟩
  rw [← hN] at HFr ⊢
  replace hN := Rg.hid hN
  replace hrow := Rg.hid hrow
  replace hfit := Rg.hid hfit
  replace hw := Rg.hid hw
  clear hn
  go_enter Tryz.func5, Tryz.ntmps5
  go_upto_region 1 with fail
  go_wp2_with (go_at_call 8; refine HFr.out.mono ?_)
  intro e w1 h1
  obtain ⟨B, rfl, hB, b1⟩ := h1
  cases B
  case true =>
    go_wp2_with (go_at_call 9; refine (HA.out _ b1.out).mono ?_; rintro e w2 ⟨rfl, b2⟩)
    go_ret
    exact ⟨rfl, b2⟩
  case false =>
    have hlen : N ≤ 60 := hB.out rfl
    clear hB HFr
    go_upto_region 4 with (first | (go_at_call 10; refine (HN.out _).mono ?_; rintro e w2 ⟨rfl, b2⟩))
    have kX : Hid (DB w2.heap.size #[.slice none 0 0, .slice none 0 0, .int .i64 60000, .int .i64 (-1), .bool false] d0 (w2.alloc (.cells #[.slice none 0 0, .slice none 0 0, .int .i64 60000, .int .i64 (-1), .bool false] 28))) := DB.new (hDn.out w2)
    have hb2 := Rg.hid (Rg.chain (Rg.chain b1.out b2) (Rg.al1 w2 (.cells #[.slice none 0 0, .slice none 0 0, .int .i64 60000, .int .i64 (-1), .bool false] 28)))
    have hXw0 : w.heap.size ≤ w2.heap.size := (Rg.chain b1.out b2).size
    clear HN hDn b1 b2
    generalize World.alloc _ _ = w3 at *
    obtain ⟨X, hX⟩ : ∃ X, X = w2.heap.size := ⟨_, rfl⟩
    rw [← hX] at kX hXw0 ⊢
    have hXw := Rg.hid hXw0
    clear hX hXw0
    have hmm := @run_makeMap Tryz.prog
    have mb0 := Rg.hid (MB.new w3)
    have kX2 := Rg.hid (kX.out.old (.map #[] 0))
    have hb3 := Rg.hid (Rg.chain hb2.out (Rg.al1 w3 (.map #[] 0)))
    have hrw0 : w.heap.size ≤ w3.heap.size := hb2.out.size
    have nXr0 : X ≠ w3.heap.size := Nat.ne_of_lt kX.out.lt
    clear kX hb2
    go_upto_region 5 with fail
    generalize World.alloc _ _ = w4 at *
    obtain ⟨r, hr⟩ : ∃ r, r = w3.heap.size := ⟨_, rfl⟩
    rw [← hr] at mb0 hrw0 nXr0 ⊢
    have hrw := Rg.hid hrw0
    have nXr := Rg.hid nXr0
    clear hr hmm hrw0 nXr0
    go_wp2
    go_loopw [17] (fun vi wr => ∃ (i : Nat) (d : Dsk.Dk) (ks : List Int) (Bn : Int) (CS : Array Value), i ≤ N ∧ vi = .int .i64 i ∧ Hid (Spl.NumI (i * 6300) Bn ks d) ∧ Hid (DB X CS d wr) ∧ Hid (MB wr r ks) ∧ Hid (Below w.heap.size w wr)) (fun vi _ => N - (intOf vi).toNat)
    case atStart => exact ⟨0, d0, [], 0, _, Nat.zero_le _, rfl, hI0, kX2, mb0, hb3⟩
    case round =>
      obtain ⟨i, d, ks, Bn, CS, hin, rfl, hI, kD, mb, hbw⟩ := hrel
      clear hI0 kX2 mb0 hb3
      by_cases hlt : i < N
      · have hil : i < l.length := by rw [← hN.out]; exact hlt
        obtain ⟨rb, ro, rfl, hrb, hat⟩ := hrow.out.cell hil
        have at1 := hat.below hbw.out hrb
        have hcf := hfit.out _ (List.getElem_mem hil)
        generalize l[i] = c at *
        obtain ⟨ck, cs, ⟨jg, jn, jk, ju, jf, jt, jc, jz⟩, cx, cm⟩ := c
        obtain ⟨c0, c1, c2, c3, c4, c5, c6, c7, c8, c9, c10, c11⟩ := sop_at at1
        dsimp only at c0 c1 c2 c3 c4 c5 c6 c7 c8 c9 c10 c11
        replace hcf := Rg.hid hcf
        have iz0 : (0 : Int) ≤ (i : Int) := by omega
        have iz1 : (i : Int) < (N : Int) := by omega
        have hm6 : i * 6300 ≤ 1000000 := by omega
        have hm7 : i * 6300 + 6300 = (i + 1) * 6300 := by omega
        replace hm6 := Rg.hid hm6
        replace hm7 := Rg.hid hm7
        have bO := Rg.al1 wr (.cells #[.int .i64 ck, .string cs, .int .i64 jg, .int .i64 jn, .int .i64 jk, .string ju, .string jf, .string jt, .string jc, .int .i64 jz, .string cx, .int .i64 cm] 35)
        have kO : Hid (Rg.Bk wr.heap.size [.int .i64 ck, .string cs, .int .i64 jg, .int .i64 jn, .int .i64 jk, .string ju, .string jf, .string jt, .string jc, .int .i64 jz, .string cx, .int .i64 cm] 35 (wr.alloc (.cells #[.int .i64 ck, .string cs, .int .i64 jg, .int .i64 jn, .int .i64 jk, .string ju, .string jf, .string jt, .string jc, .int .i64 jz, .string cx, .int .i64 cm] 35))) := Rg.Bk.new rfl
        have kD1 := Rg.hid (kD.out.below bO)
        have mb1 := Rg.hid (mb.out.below bO)
        have hb1 := Rg.hid (Rg.chain hbw.out bO)
        clear hat at1 hrow hfit hil
        go_upto_region 8 with fail
        generalize World.alloc _ _ = wa at *
        obtain ⟨Q, hQ⟩ : ∃ Q, Q = wr.heap.size := ⟨_, rfl⟩
        rw [← hQ] at kO ⊢
        clear hQ c0 c1 c2 c3 c4 c5 c6 c7 c8 c9 c10 c11 hbw bO kD mb
        have o0 : wa.cell? ⟨Q, 0, none⟩ = some (.int .i64 ck) := kO.out.cell 0
        have o1 : wa.cell? ⟨Q, 1, none⟩ = some (.string cs) := kO.out.cell 1
        have o2 : wa.cell? ⟨Q, 2, none⟩ = some (.int .i64 jg) := kO.out.cell 2
        have o3 : wa.cell? ⟨Q, 3, none⟩ = some (.int .i64 jn) := kO.out.cell 3
        have o4 : wa.cell? ⟨Q, 4, none⟩ = some (.int .i64 jk) := kO.out.cell 4
        have o5 : wa.cell? ⟨Q, 5, none⟩ = some (.string ju) := kO.out.cell 5
        have o6 : wa.cell? ⟨Q, 6, none⟩ = some (.string jf) := kO.out.cell 6
        have o7 : wa.cell? ⟨Q, 7, none⟩ = some (.string jt) := kO.out.cell 7
        have o8 : wa.cell? ⟨Q, 8, none⟩ = some (.string jc) := kO.out.cell 8
        have o9 : wa.cell? ⟨Q, 9, none⟩ = some (.int .i64 jz) := kO.out.cell 9
        have o10 : wa.cell? ⟨Q, 10, none⟩ = some (.string cx) := kO.out.cell 10
        have o11 : wa.cell? ⟨Q, 11, none⟩ = some (.int .i64 cm) := kO.out.cell 11
        clear kO
        have hlD := Rg.hid kD1.out.ld
        by_cases h1 : ck = 1
        · subst h1
          have HC : Hid (∀ W, Below w.heap.size w W → DAt W (.agg CS) d → Calls Tryz.prog 12 #[.agg CS, .string cs, .agg #[.int .i64 jg, .int .i64 jn]] W fun e w' => V2Post W (Spl.done d cs jg jn) e w') := fun W hW hv => done_any _ d cs jg jn W hI.out.fit hm6.out hcf.out.s hv (hw.out.below hW)
          have hI9 : Hid (Spl.NumI ((i + 1) * 6300) Bn ks (Spl.done d cs jg jn).1) := by show Spl.NumI _ _ _ _; rw [← hm7.out]; exact hI.out.done hm6.out cs jg jn
          generalize Spl.done d cs jg jn = r1 at *
          clear hI hcf
          go_upto_region 23 with (first | (with_reducible refine Rg.isld (.tmp 3) 28 ?_; refine Rg.lld (.tmp 3) 28 rfl hlD.out ?_) | (go_at_call 12; refine (HC.out _ hb1.out kD1.out.dt).mono ?_; rintro e w5 ⟨CS1, rfl, a5, b5⟩; obtain ⟨w6, st6, k6, oS6⟩ := (kD1.out.below b5.out).st a5.out) | (with_reducible refine Rg.isst (.tmp 3) (.tmp 59) 28 ?_; refine Rg.lst (.tmp 3) (.tmp 59) 28 rfl rfl st6 ?_))
          have kD9 := Rg.hid k6
          have mb9 := Rg.hid ((mb1.out.below b5.out).same (oS6.block r nXr.out.symm))
          have hb9 := Rg.hid ((Rg.chain hb1.out b5.out).trans (oS6.bel hXw.out))
          clear k6 oS6 st6 a5 b5 kD1 mb1 hb1 hlD HC o0 o1 o2 o3 o4 o5 o6 o7 o8 o9 o10 o11
          go_wp2
          go_roundw
          case rel => exact ⟨i + 1, r1.1, ks, Bn, CS1, by omega, by go_num, hI9, kD9, mb9, hb9⟩
          case measure => simp [intOf]; omega
        by_cases h2 : ck = 2
        · subst h2
          have HC : Hid (∀ W, Below w.heap.size w W → DAt W (.agg CS) d → Calls Tryz.prog 14 #[.agg CS, .string cs, .agg #[.int .i64 jg, .int .i64 jn]] W fun e w' => V2Post W (Spl.fail d cs jg jn) e w') := fun W hW hv => fail_any _ d cs jg jn W hI.out.fit hm6.out hcf.out.s hv (hw.out.below hW)
          have hI9 : Hid (Spl.NumI ((i + 1) * 6300) Bn ks (Spl.fail d cs jg jn).1) := by show Spl.NumI _ _ _ _; rw [← hm7.out]; exact hI.out.fail hm6.out cs jg jn
          generalize Spl.fail d cs jg jn = r1 at *
          clear hI hcf
          go_upto_region 23 with (first | (with_reducible refine Rg.isld (.tmp 3) 28 ?_; refine Rg.lld (.tmp 3) 28 rfl hlD.out ?_) | (go_at_call 14; refine (HC.out _ hb1.out kD1.out.dt).mono ?_; rintro e w5 ⟨CS1, rfl, a5, b5⟩; obtain ⟨w6, st6, k6, oS6⟩ := (kD1.out.below b5.out).st a5.out) | (with_reducible refine Rg.isst (.tmp 3) (.tmp 71) 28 ?_; refine Rg.lst (.tmp 3) (.tmp 71) 28 rfl rfl st6 ?_))
          have kD9 := Rg.hid k6
          have mb9 := Rg.hid ((mb1.out.below b5.out).same (oS6.block r nXr.out.symm))
          have hb9 := Rg.hid ((Rg.chain hb1.out b5.out).trans (oS6.bel hXw.out))
          clear k6 oS6 st6 a5 b5 kD1 mb1 hb1 hlD HC o0 o1 o2 o3 o4 o5 o6 o7 o8 o9 o10 o11
          go_wp2
          go_roundw
          case rel => exact ⟨i + 1, r1.1, ks, Bn, CS1, by omega, by go_num, hI9, kD9, mb9, hb9⟩
          case measure => simp [intOf]; omega
        by_cases h4 : ck = 4
        · subst h4
          have HC : Hid (∀ W, DAt W (.agg CS) d → Calls Tryz.prog 28 #[.agg CS, .int .i64 cm] W fun e w' => ∃ CS', e = .returned (.agg CS') ∧ Hid (DAt w' (.agg CS') (Dsk.crash d cm)) ∧ Hid (Below W.heap.size W w')) := fun W hv => (crash_any _ d cm W hI.out.fit.sm.ok hv).mono fun e w' ⟨v, h1, h2, h3⟩ => by
            obtain ⟨CS', rfl⟩ := h2.agg
            exact ⟨CS', h1, h2, h3⟩
          have HS : Hid (∀ W CS, DAt W (.agg CS) (Dsk.crash d cm) → Calls Tryz.prog 27 #[.agg CS] W fun e w' => ∃ CS', e = .returned (.agg CS') ∧ Hid (DAt w' (.agg CS') (Dsk.start (Dsk.crash d cm))) ∧ Hid (Below W.heap.size W w')) := fun W CS hv => (start_any _ _ W hv).mono fun e w' ⟨v, h1, h2, h3⟩ => by
            obtain ⟨CS', rfl⟩ := h2.agg
            exact ⟨CS', h1, h2, h3⟩
          have hI9 : Hid (Spl.NumI ((i + 1) * 6300) Bn ks (Dsk.start (Dsk.crash d cm))) := by show Spl.NumI _ _ _ _; rw [← hm7.out]; exact hI.out.crash cm
          generalize Dsk.start (Dsk.crash d cm) = ds at *
          generalize Dsk.crash d cm = dc at *
          clear hI hcf
          go_upto_region 23 with (first | (with_reducible refine Rg.isld (.tmp 3) 28 ?_; refine Rg.lld (.tmp 3) 28 rfl hlD.out ?_) | (go_at_call 28; refine (HC.out _ kD1.out.dt).mono ?_; rintro e w5 ⟨CS1, rfl, a5, b5⟩) | (go_at_call 27; refine (HS.out _ _ a5.out).mono ?_; rintro e w7 ⟨CS2, rfl, a7, b7⟩; obtain ⟨w6, st6, k6, oS6⟩ := ((kD1.out.below b5.out).below b7.out).st a7.out) | (with_reducible refine Rg.isst (.tmp 3) (.tmp 79) 28 ?_; refine Rg.lst (.tmp 3) (.tmp 79) 28 rfl rfl st6 ?_))
          have kD9 := Rg.hid k6
          have mb9 := Rg.hid (((mb1.out.below b5.out).below b7.out).same (oS6.block r nXr.out.symm))
          have hb9 := Rg.hid ((Rg.chain (Rg.chain hb1.out b5.out) b7.out).trans (oS6.bel hXw.out))
          clear k6 oS6 st6 a5 b5 a7 b7 kD1 mb1 hb1 hlD HC HS o0 o1 o2 o3 o4 o5 o6 o7 o8 o9 o10 o11
          go_wp2
          go_roundw
          case rel => exact ⟨i + 1, ds, ks, Bn, CS2, by omega, by go_num, hI9, kD9, mb9, hb9⟩
          case measure => simp [intOf]; omega
        by_cases h5 : ck = 5
        · subst h5
          have HC : Hid (∀ W, DAt W (.agg CS) d → Calls Tryz.prog 29 #[.agg CS, .int .i64 cm] W fun e w' => ∃ CS', e = .returned (.agg CS') ∧ Hid (DAt w' (.agg CS') (Dsk.arm d cm)) ∧ Hid (Below W.heap.size W w')) := fun W hv => (arm_any _ d cm W hv).mono fun e w' ⟨v, h1, h2, h3⟩ => by
            obtain ⟨CS', rfl⟩ := h2.agg
            exact ⟨CS', h1, h2, h3⟩
          have hI9 : Hid (Spl.NumI ((i + 1) * 6300) Bn ks (Dsk.arm d cm)) := by show Spl.NumI _ _ _ _; rw [← hm7.out]; exact hI.out.arm cm hcf.out.m1
          generalize Dsk.arm d cm = da at *
          clear hI hcf
          go_upto_region 23 with (first | (with_reducible refine Rg.isld (.tmp 3) 28 ?_; refine Rg.lld (.tmp 3) 28 rfl hlD.out ?_) | (go_at_call 29; refine (HC.out _ kD1.out.dt).mono ?_; rintro e w5 ⟨CS1, rfl, a5, b5⟩; obtain ⟨w6, st6, k6, oS6⟩ := (kD1.out.below b5.out).st a5.out) | (with_reducible refine Rg.isst (.tmp 3) (.tmp 85) 28 ?_; refine Rg.lst (.tmp 3) (.tmp 85) 28 rfl rfl st6 ?_))
          have kD9 := Rg.hid k6
          have mb9 := Rg.hid ((mb1.out.below b5.out).same (oS6.block r nXr.out.symm))
          have hb9 := Rg.hid ((Rg.chain hb1.out b5.out).trans (oS6.bel hXw.out))
          clear k6 oS6 st6 a5 b5 kD1 mb1 hb1 hlD HC o0 o1 o2 o3 o4 o5 o6 o7 o8 o9 o10 o11
          go_wp2
          go_roundw
          case rel => exact ⟨i + 1, da, ks, Bn, CS1, by omega, by go_num, hI9, kD9, mb9, hb9⟩
          case measure => simp [intOf]; omega
        have HC : Hid (∀ W, Below w.heap.size w W → DAt W (.agg CS) d → Calls Tryz.prog 18 #[.agg CS, .string cs, .agg #[.int .i64 jg, .int .i64 jn, .int .i64 jk, .string ju, .string jf, .string jt, .string jc, .int .i64 jz], .string cx] W fun e w' => QPost (Spl.queue d cs ⟨jg, jn, jk, ju, jf, jt, jc, jz⟩ cx) W e w') := fun W hW hv => queue_any _ d cs cx ⟨jg, jn, jk, ju, jf, jt, jc, jz⟩ W hI.out.fit hm6.out ⟨hcf.out.s, hcf.out.u, hcf.out.f, hcf.out.t, hcf.out.c⟩ hv (hw.out.below hW)
        have hI8 := hI.out.queue hm6.out cs ⟨jg, jn, jk, ju, jf, jt, jc, jz⟩ cx
        rw [hm7.out] at hI8
        unfold QPost at HC
        generalize Spl.queue d cs ⟨jg, jn, jk, ju, jf, jt, jc, jz⟩ cx = rq at *
        obtain ⟨dq, ⟨gq, nq⟩, eq⟩ := rq
        dsimp only at HC hI8
        replace hI8 := Rg.hid hI8
        have e1 : (ck == 1) = false := by simpa using h1
        have e2 : (ck == 2) = false := by simpa using h2
        have e4 : (ck == 4) = false := by simpa using h4
        have e5 : (ck == 5) = false := by simpa using h5
        clear hI hcf
        go_upto_region 10 with (first | (with_reducible refine Rg.isld (.tmp 3) 28 ?_; refine Rg.lld (.tmp 3) 28 rfl hlD.out ?_) | (go_at_call 18; refine (HC.out _ hb1.out kD1.out.dt).mono ?_; rintro e w5 ⟨CS1, rfl, a5, b5⟩; obtain ⟨w6, st6, k6, oS6⟩ := (show DB w5.heap.size zcD zdk ((w5.alloc (.cells #[.slice none 0 0, .slice none 0 0, .int .i64 0, .int .i64 0, .bool false] 28)).alloc (.cells #[.int .i64 0, .int .i64 0] 31)) from DB.old ⟨Rg.Bk.new rfl, zdk_at _⟩ _).st (a5.out.below (Rg.al2 w5 (.cells #[.slice none 0 0, .slice none 0 0, .int .i64 0, .int .i64 0, .bool false] 28) (.cells #[.int .i64 0, .int .i64 0] 31))); obtain ⟨w7, st7, k7, oI7⟩ := idst ((show Rg.Bk (w5.heap.size + 1) [.int .i64 0, .int .i64 0] 31 ((w5.alloc (.cells #[.slice none 0 0, .slice none 0 0, .int .i64 0, .int .i64 0, .bool false] 28)).alloc (.cells #[.int .i64 0, .int .i64 0] 31)) from Rg.Bk.new (by simp)).same (oS6.block (w5.heap.size + 1) (by omega))) rfl gq nq) | (with_reducible refine Rg.isst (.tmp 7) (.tmp 32) 28 ?_; refine Rg.lst (.tmp 7) (.tmp 32) 28 rfl rfl st6 ?_) | (with_reducible refine Rg.isst (.tmp 8) (.tmp 33) 31 ?_; refine Rg.lst (.tmp 8) (.tmp 33) 31 rfl rfl st7 ?_))
        have hX5 : X < w5.heap.size := (kD1.out.below b5.out).lt
        have hr5 : r < w5.heap.size := (mb1.out.below b5.out).lt
        have hX7w0 : w.heap.size ≤ w5.heap.size := (Rg.chain hb1.out b5.out).size
        have kZ : DB w5.heap.size zcD zdk ((w5.alloc (.cells #[.slice none 0 0, .slice none 0 0, .int .i64 0, .int .i64 0, .bool false] 28)).alloc (.cells #[.int .i64 0, .int .i64 0] 31)) := DB.old ⟨Rg.Bk.new rfl, zdk_at _⟩ _
        have kI : Rg.Bk (w5.heap.size + 1) [.int .i64 0, .int .i64 0] 31 w6 := (show Rg.Bk (w5.heap.size + 1) [.int .i64 0, .int .i64 0] 31 ((w5.alloc (.cells #[.slice none 0 0, .slice none 0 0, .int .i64 0, .int .i64 0, .bool false] 28)).alloc (.cells #[.int .i64 0, .int .i64 0] 31)) from Rg.Bk.new (by simp)).same (oS6.block (w5.heap.size + 1) (by omega))
        have bA := Rg.al2 w5 (.cells #[.slice none 0 0, .slice none 0 0, .int .i64 0, .int .i64 0, .bool false] 28) (.cells #[.int .i64 0, .int .i64 0] 31)
        have kX7 := Rg.hid (k6.onlyI kI (by omega) oI7)
        have kD7 := Rg.hid (((((kD1.out.below b5.out).below bA).only kZ (by omega) oS6)).onlyI kI (by omega) oI7)
        have mb7 := Rg.hid ((((mb1.out.below b5.out).below bA).same (oS6.block r (by omega))).same (oI7.block r (by omega)))
        have hb7 := Rg.hid (((Rg.chain (Rg.chain hb1.out b5.out) bA).trans (oS6.bel hX7w0)).trans (oI7.bel (by omega)))
        have kY7 := Rg.hid k7
        have nXX7 : Hid (X ≠ w5.heap.size) := Nat.ne_of_lt hX5
        have nrX7 : Hid (X ≠ r) := nXr.out
        have y1 : w7.cell? ⟨w5.heap.size + 1, 1, none⟩ = some (.int .i64 nq) := k7.cell 1
        obtain ⟨X7, hX7⟩ : ∃ X7, X7 = w5.heap.size := ⟨_, rfl⟩
        obtain ⟨Y8, hY8⟩ : ∃ Y8, Y8 = w5.heap.size + 1 := ⟨_, rfl⟩
        rw [← hY8] at y1 ⊢
        rw [← hX7] at kX7 nXX7 ⊢
        clear hY8 hX7 kZ kI bA kY7 k7 k6 oI7 oS6 st6 st7 a5 b5 hX5 hr5 hX7w0 kD1 mb1 hb1 hlD HC o0 o1 o2 o3 o4 o5 o6 o7 o8 o9 o10 o11
        rcases hI8.out with ⟨hne, hI9⟩ | ⟨rfl, hnk, hI9⟩
        · have e0 : (eq == 0) = false := by simpa using hne
          clear hne hI8
          obtain ⟨w8, st8, k8, oS8⟩ := kD7.out.st kX7.out.dt
          have hl7 := Rg.hid kX7.out.ld
          go_upto_region 23 with (first | (with_reducible refine Rg.isld (.tmp 7) 28 ?_; refine Rg.lld (.tmp 7) 28 rfl hl7.out ?_) | (with_reducible refine Rg.isst (.tmp 3) (.tmp 48) 28 ?_; refine Rg.lst (.tmp 3) (.tmp 48) 28 rfl rfl st8 ?_))
          have kD9 := Rg.hid k8
          have mb9 := Rg.hid (mb7.out.same (oS8.block r nXr.out.symm))
          have hb9 := Rg.hid (hb7.out.trans (oS8.bel hXw.out))
          replace hI9 := Rg.hid hI9
          clear k8 oS8 st8 kD7 mb7 hb7 kX7 hl7 y1
          go_wp2
          go_roundw
          case rel => exact ⟨i + 1, dq, ks, Bn, CS1, by omega, by go_num, hI9, kD9, mb9, hb9⟩
          case measure => simp [intOf]; omega
        · have hlk := mb7.out.lookup hnk
          obtain ⟨w8, hup, mb8, oM⟩ := mb7.out.update hnk
          have kX8 := Rg.hid (mb7.out.db oM kX7.out)
          have kD8 := Rg.hid (mb7.out.db oM kD7.out)
          have hb8 := Rg.hid (hb7.out.trans (oM.bel hrw.out))
          obtain ⟨w9, st9, k9, oS9⟩ := kD8.out.st kX8.out.dt
          have hl8 := Rg.hid kX8.out.ld
          replace mb8 := Rg.hid mb8
          replace oM := Rg.hid oM
          replace hI9 := Rg.hid hI9
          clear hI8 hnk
          go_upto_region 14 with fail
          clear hlk hup oM y1 mb7 hb7 kD7 kX7
          go_upto_region 23 with (first | (with_reducible refine Rg.isld (.tmp 7) 28 ?_; refine Rg.lld (.tmp 7) 28 rfl hl8.out ?_) | (with_reducible refine Rg.isst (.tmp 3) (.tmp 48) 28 ?_; refine Rg.lst (.tmp 3) (.tmp 48) 28 rfl rfl st9 ?_))
          have kD9 := Rg.hid k9
          have mb9 := Rg.hid (mb8.out.same (oS9.block r nXr.out.symm))
          have hb9 := Rg.hid (hb8.out.trans (oS9.bel hXw.out))
          clear k9 oS9 st9 kD8 mb8 hb8 kX8 hl8
          go_wp2
          go_roundw
          case rel => exact ⟨i + 1, dq, ks ++ [nq], nq, CS1, by omega, by go_num, hI9, kD9, mb9, hb9⟩
          case measure => simp [intOf]; omega
      · have hiN : i = N := by omega
        subst hiN
        clear hrow hfit hI
        go_wp2_with (go_at_call 9; refine (HA.out _ hbw.out).mono ?_; rintro e w5 ⟨rfl, b5⟩)
        go_ret
        exact ⟨rfl, b5⟩
end Go.Proofs.YtgboghbicbnhiaaGreatDoor

namespace Go.Proofs.YtgboghbicbnhiaaGreatDoor
open Go.ChangeShapes Go.WideShapes Go.ChangeAt Go.RowKit

theorem own : ownKnob Tryz.prog.godebug = none := by kernel_rfl
theorem gTab : Tryz.prog.globalNamed "internal/strconv.uint64pow10" = some 1 := by kernel_rfl
theorem gTabType : (Tryz.prog.globals[1]?).map (·.type) = some 183 := by kernel_rfl
theorem cellsTab : Tryz.prog.cellsOf 183 = 20 := by kernel_rfl
theorem cellsU64 : Tryz.prog.cellsOf 55 = 1 := by kernel_rfl
theorem pow10_data : (Rows.laid_internal_strconv_uint64pow10 : DataW Unit) = Lib.tabData .u64 Lib.pow10Tab := by kernel_rfl

/-- The list of variables that every row of this seat bears. -/
def laidL : List (String × DataW Unit) := [("math/bits.deBruijn32tab", Rows.laid_math_bits_deBruijn32tab), ("math/bits.deBruijn64tab", Rows.laid_math_bits_deBruijn64tab), ("internal/strconv.uint64pow10", Rows.laid_internal_strconv_uint64pow10), ("unicode/utf8.acceptRanges", Rows.laid_unicode_utf8_acceptRanges), ("unicode/utf8.first", Rows.laid_unicode_utf8_first)]

theorem table {W : World} (h : laidMetH Tryz.prog laidL W) : Lib.TabIs Tryz.prog W "internal/strconv.uint64pow10" .u64 Lib.pow10Tab := by
  have h1 := laidMetH.filter (fun x => x.1 == "internal/strconv.uint64pow10") h
  have e : laidL.filter (fun x => x.1 == "internal/strconv.uint64pow10") = [("internal/strconv.uint64pow10", Rows.laid_internal_strconv_uint64pow10)] := by kernel_rfl
  rw [e, pow10_data, MakeChecks.laidMetH_plain _ _ _ (by kernel_rfl)] at h1
  exact Lib.tabIs_of_head (rest := []) gTab gTabType Tryz.underlying183 Tryz.underlying55 cellsU64 cellsTab h1

theorem laid_met (os : Os) (args : Array Value) : laidMet Tryz.prog laidL ((World.laidAll Tryz.prog os laidL).forCall (fun _ _ => 0) ⟨#[], args, []⟩).memory :=
  laidMet_laidAll args (by kernel_rfl) (by kernel_rfl)

theorem maxOk {W : World} (h : W.ShapedOpen Tryz.prog) : MaxIn W :=
  cell_of_shapedOpen_int (t := 3) (zero := #[.int .i64 0]) (k := .i64) h (of_decide_eq_true (by kernel_rfl)) (by kernel_rfl) rfl (by kernel_rfl) (by kernel_rfl) Tryz.underlying3
end Go.Proofs.YtgboghbicbnhiaaGreatDoor
