/-
  Layer 18: full of the law: a disk on which jobs were queued. Layers 18, 19: a job with its bytes compared with itself. Layers 18, 19: jobs with their bytes compared.
-/
import Derived.Test.YtmilfamjkiemaaaGreatDoorSzAJ
import Derived.Test.YtmilfamjkiemaaaGreatDoorSzBB
import Derived.Test.YtmilfamjkiemaaaGreatDoorSzBI
import Derived.Test.YtmilfamjkiemaaaGreatDoorSzAS
import Derived.Test.YtmilfamjkiemaaaGreatDoorSzAR
namespace Go.Proofs.YtmilfamjkiemaaaGreatDoor
open Go.RowKit
theorem jidst {J : Nat} {j : Job.Jb} {ty : TypeId} {W : World} (k : Rg.Bk J (jc j) ty W) (g n : Int) : ∃ W', (storeVar 31 ⟨J, 0, none⟩ (.agg #[.int .i64 g, .int .i64 n])).run Tryz.prog W = .ok () W' ∧ Rg.Bk J (jc ⟨g, n, j.k, j.u, j.f, j.t, j.c, j.z⟩) ty W' ∧ Rg.Only J W W' := by
  refine ⟨(W.setCell ⟨J, 0, none⟩ (.int .i64 g)).setCell ⟨J, 1, none⟩ (.int .i64 n), ?_, (k.set 0 _).set 1 _, (Rg.Only.setCell W J 0 _).trans (Rg.Only.setCell _ J 1 _)⟩
  refine run_storeVar_mid (P := Tryz.prog) W J 0 31 #[.int .i64 g, .int .i64 n] (fun i hi => ⟨?_, ?_⟩) idU (by simp [Value.oneCell'])
  · rw [k.cell]
    have : i < 2 := hi
    match i, this with
    | 0, _ => rfl
    | 1, _ => rfl
  · exact k.thaw _
theorem DB.stB {B : Nat} {CS CS' : Array Value} {d d' : Dsk.Dk} {W0 W : World} (h : DB B CS d W0) (k : Rg.Bk B CS.toList 28 W) (h' : DAt W (.agg CS') d') : ∃ W', (storeVar 28 ⟨B, 0, none⟩ (.agg CS')).run Tryz.prog W = .ok () W' ∧ DB B CS' d' W' ∧ Rg.Only B W W' := by
  obtain ⟨sa, sc, oa, oc, e⟩ := h.dt.cells
  obtain ⟨sa', sc', oa', oc', e'⟩ := h'.cells
  subst e
  obtain ⟨W', h3, h4, h5⟩ := Rg.row_storeVar (P := Tryz.prog) (t := 28) (CS := CS') k (by rw [e']; exact diskU) (by rw [e']; rfl) (by rw [e']; simp [Value.oneCell'])
  exact ⟨W', h3, ⟨h4, h'.only k plainD h5⟩, h5⟩
/-- what full answers -/
def FullPost (N : Nat) (w : World) (e : Ending) (w' : World) : Prop := ∃ CS A cap d ws, e = .returned (.tuple #[.agg CS, .slice A ws.length cap]) ∧ Hid (DAt w' (.agg CS) d) ∧ Hid (heldE.Row w' A ws ∧ ws.length ≤ cap) ∧ Hid (Below w.heap.size w w') ∧ Hid (Spl.FullI (N * 6300) d ws) ∧ Hid (ws.length ≤ N)
set_option maxHeartbeats 2000000 in
set_option maxRecDepth 100000 in
theorem full_any (a : Option Addr) (ca : Nat) (l : List Spl.SOp) (hlen : l.length ≤ 60) (hfit : ∀ c ∈ l, SFits c) (w : World) (hrow : SRow0 w a l) (hw : Ok w) :
    Calls Tryz.prog 26 #[.slice a l.length ca] w fun e w' => FullPost l.length w e w' := by
  have HN : Hid (∀ W, Calls Tryz.prog 10 #[.int .i64 60000] W fun e w' => e = .returned (.agg #[.slice none 0 0, .slice none 0 0, .int .i64 60000, .int .i64 (-1), .bool false]) ∧ Below W.heap.size W w') := fun W => new_any 60000 W
  have hDn : Hid (∀ W, DAt W (.agg #[.slice none 0 0, .slice none 0 0, .int .i64 60000, .int .i64 (-1), .bool false]) (Dsk.new 60000)) := fun W => ⟨none, 0, none, 0, rfl, .inl ⟨rfl, rfl⟩, .inl ⟨rfl, rfl⟩, Nat.le_refl _, Nat.le_refl _⟩
  have hI0 := Rg.hid (Spl.FullI.new 60000)
  generalize Dsk.new 60000 = d0 at *
  obtain ⟨N, hN⟩ : ∃ N, N = l.length := ⟨_, rfl⟩
  rw [← hN] at hlen ⊢
  replace hN := Rg.hid hN
  replace hrow := Rg.hid hrow
  replace hfit := Rg.hid hfit
  replace hw := Rg.hid hw
  have kR0 : Hid (DB w.heap.size zcD zdk (w.alloc (.cells #[.slice none 0 0, .slice none 0 0, .int .i64 0, .int .i64 0, .bool false] 28))) := ⟨Rg.Bk.new (by simp), zdk_at _⟩
  have hb0 := Rg.hid (Rg.al1 w (.cells #[.slice none 0 0, .slice none 0 0, .int .i64 0, .int .i64 0, .bool false] 28))
  go_enter Tryz.func26, Tryz.ntmps26
  go_upto_region 1 with fail
  generalize World.alloc _ _ = w1 at *
  obtain ⟨R, hR⟩ : ∃ R, R = w.heap.size := ⟨_, rfl⟩
  rw [← hR] at kR0 ⊢
  have hRw : Hid (w.heap.size ≤ R) := Nat.le_of_eq hR.symm
  clear hR
  go_upto_region 2 with (first | (go_at_call 10; refine (HN.out _).mono ?_; rintro e w2 ⟨rfl, b2⟩))
  have bX := Rg.al1 w2 (.cells #[.slice none 0 0, .slice none 0 0, .int .i64 60000, .int .i64 (-1), .bool false] 28)
  have kX : Hid (DB w2.heap.size #[.slice none 0 0, .slice none 0 0, .int .i64 60000, .int .i64 (-1), .bool false] d0 (w2.alloc (.cells #[.slice none 0 0, .slice none 0 0, .int .i64 60000, .int .i64 (-1), .bool false] 28))) := DB.new (hDn.out w2)
  have kR := Rg.hid ((kR0.out.below b2).below bX)
  have hb3 := Rg.hid (Rg.chain (Rg.chain hb0.out b2) bX)
  have hXw0 : w.heap.size ≤ w2.heap.size := (Rg.chain hb0.out b2).size
  have nRX0 : R ≠ w2.heap.size := Nat.ne_of_lt (Nat.lt_of_lt_of_le kR0.out.lt b2.size)
  clear HN hDn b2 bX kR0 hb0
  generalize World.alloc _ _ = w3 at *
  obtain ⟨X, hX⟩ : ∃ X, X = w2.heap.size := ⟨_, rfl⟩
  rw [← hX] at kX hXw0 nRX0 ⊢
  have hXw := Rg.hid hXw0
  have nRX := Rg.hid nRX0
  clear hX hXw0 nRX0
  have hXB : Hid (X < w3.heap.size) := kX.out.lt
  have hRB : Hid (R < w3.heap.size) := kR.out.lt
  have hBw : Hid (w.heap.size ≤ w3.heap.size) := hb3.out.size
  go_upto_region 3 with fail
  obtain ⟨B0, hB0⟩ : ∃ B0, B0 = w3.heap.size := ⟨_, rfl⟩
  rw [← hB0] at hXB hRB hBw
  have hBs : Hid (B0 ≤ w3.heap.size) := Nat.le_of_eq hB0
  clear hB0
  have hz3 : Hid (HZ B0 w3 none 0 []) := HZ.nil
  go_wp2
  go_loopw [5, 15] (fun v5 vi wr => ∃ (i : Nat) (d : Dsk.Dk) (ws : List Spl.Hd) (A : Option Addr) (cap : Nat) (CS : Array Value), i ≤ N ∧ v5 = .slice A ws.length cap ∧ vi = .int .i64 i ∧ Hid (Spl.FullI (i * 6300) d ws) ∧ Hid (ws.length ≤ i) ∧ Hid (DB X CS d wr) ∧ Hid (DB R zcD zdk wr) ∧ Hid (HZ B0 wr A cap ws) ∧ Hid (B0 ≤ wr.heap.size) ∧ Hid (Below w.heap.size w wr)) (fun _ vi _ => N - (intOf vi).toNat)
  case atStart => exact ⟨0, d0, [], none, 0, _, Nat.zero_le _, rfl, rfl, hI0, Nat.zero_le _, kX, kR, hz3, hBs, hb3⟩
  case round =>
    obtain ⟨i, d, ws, A, cap, CS, hin, rfl, rfl, hI, hwi, kD, kRr, hz, hBr, hbw⟩ := hrel
    clear hI0 kX kR hz3 hBs hb3
    by_cases hlt : i < N
    · have hil : i < l.length := by rw [← hN.out]; exact hlt
      obtain ⟨rb, ro, rfl, hrb, hat⟩ := hrow.out.cell hil
      have at1 := hat.below hbw.out hrb
      have hcf := hfit.out _ (List.getElem_mem hil)
      generalize l[i] = c at *
      obtain ⟨ck, cs, ⟨jg, jn, jk, ju, jf, jt, jc, jz⟩, cx, cm⟩ := c
      obtain ⟨c0, c1, c2, c3, c4, c5, c6, c7, c8, c9, c10, c11⟩ := sop_at at1
      dsimp only at c0 c1 c2 c3 c4 c5 c6 c7 c8 c9 c10 c11
      replace hcf := Rg.hid hcf
      have iz0 : (0 : Int) ≤ (i : Int) := by omega
      have iz1 : (i : Int) < (N : Int) := by omega
      have hm6 : i * 6300 ≤ 1000000 := by omega
      have hm7 : i * 6300 + 6300 = (i + 1) * 6300 := by omega
      have hws : Hid (ws.length ≤ 1000000) := by show _ ≤ _; have := hwi.out; omega
      replace hm6 := Rg.hid hm6
      replace hm7 := Rg.hid hm7
      have bO := Rg.al1 wr (.cells #[.int .i64 ck, .string cs, .int .i64 jg, .int .i64 jn, .int .i64 jk, .string ju, .string jf, .string jt, .string jc, .int .i64 jz, .string cx, .int .i64 cm] 35)
      have kO : Hid (Rg.Bk wr.heap.size [.int .i64 ck, .string cs, .int .i64 jg, .int .i64 jn, .int .i64 jk, .string ju, .string jf, .string jt, .string jc, .int .i64 jz, .string cx, .int .i64 cm] 35 (wr.alloc (.cells #[.int .i64 ck, .string cs, .int .i64 jg, .int .i64 jn, .int .i64 jk, .string ju, .string jf, .string jt, .string jc, .int .i64 jz, .string cx, .int .i64 cm] 35))) := Rg.Bk.new rfl
      have kD1 := Rg.hid (kD.out.below bO)
      have kR1 := Rg.hid (kRr.out.below bO)
      have hz1 := Rg.hid (hz.out.below bO)
      have hb1 := Rg.hid (Rg.chain hbw.out bO)
      have hB1 := Rg.hid (Nat.le_trans hBr.out bO.size)
      have hAg : ∀ g, A = some ⟨g, 0, none⟩ → g < wr.heap.size := fun g hg => (hz.out.lt hg).2
      replace hAg : Hid (∀ g, A = some ⟨g, 0, none⟩ → g < (wr.alloc (.cells #[.int .i64 ck, .string cs, .int .i64 jg, .int .i64 jn, .int .i64 jk, .string ju, .string jf, .string jt, .string jc, .int .i64 jz, .string cx, .int .i64 cm] 35)).heap.size) := fun g hg => Nat.lt_of_lt_of_le (hAg g hg) bO.size
      clear hat at1 hrow hfit hil
      go_upto_region 6 with fail
      generalize World.alloc _ _ = wa at *
      obtain ⟨Q, hQ⟩ : ∃ Q, Q = wr.heap.size := ⟨_, rfl⟩
      rw [← hQ] at kO ⊢
      clear hQ c0 c1 c2 c3 c4 c5 c6 c7 c8 c9 c10 c11 hbw bO kD kRr hz hBr
      have o0 : wa.cell? ⟨Q, 0, none⟩ = some (.int .i64 ck) := kO.out.cell 0
      have o1 : wa.cell? ⟨Q, 1, none⟩ = some (.string cs) := kO.out.cell 1
      have o2 : wa.cell? ⟨Q, 2, none⟩ = some (.int .i64 jg) := kO.out.cell 2
      have o3 : wa.cell? ⟨Q, 3, none⟩ = some (.int .i64 jn) := kO.out.cell 3
      have o4 : wa.cell? ⟨Q, 4, none⟩ = some (.int .i64 jk) := kO.out.cell 4
      have o5 : wa.cell? ⟨Q, 5, none⟩ = some (.string ju) := kO.out.cell 5
      have o6 : wa.cell? ⟨Q, 6, none⟩ = some (.string jf) := kO.out.cell 6
      have o7 : wa.cell? ⟨Q, 7, none⟩ = some (.string jt) := kO.out.cell 7
      have o8 : wa.cell? ⟨Q, 8, none⟩ = some (.string jc) := kO.out.cell 8
      have o9 : wa.cell? ⟨Q, 9, none⟩ = some (.int .i64 jz) := kO.out.cell 9
      have o10 : wa.cell? ⟨Q, 10, none⟩ = some (.string cx) := kO.out.cell 10
      have o11 : wa.cell? ⟨Q, 11, none⟩ = some (.int .i64 cm) := kO.out.cell 11
      have hlD := Rg.hid kD1.out.ld
      have HC : Hid (∀ W, Below w.heap.size w W → DAt W (.agg CS) d → Calls Tryz.prog 18 #[.agg CS, .string cs, .agg #[.int .i64 jg, .int .i64 jn, .int .i64 jk, .string ju, .string jf, .string jt, .string jc, .int .i64 jz], .string cx] W fun e w' => QPost (Spl.queue d cs ⟨jg, jn, jk, ju, jf, jt, jc, jz⟩ cx) W e w') := fun W hW hv => queue_any _ d cs cx ⟨jg, jn, jk, ju, jf, jt, jc, jz⟩ W hI.out.fit hm6.out ⟨hcf.out.s, hcf.out.u, hcf.out.f, hcf.out.t, hcf.out.c⟩ hv (hw.out.below hW)
      have hI8 := hI.out.queue hm6.out cs ⟨jg, jn, jk, ju, jf, jt, jc, jz⟩ cx hcf.out.s
      rw [hm7.out] at hI8
      unfold QPost at HC
      generalize Spl.queue d cs ⟨jg, jn, jk, ju, jf, jt, jc, jz⟩ cx = rq at *
      obtain ⟨dq, ⟨gq, nq⟩, eq⟩ := rq
      dsimp only at HC hI8
      replace hI8 := Rg.hid hI8
      clear hI hcf
      go_upto_region 7 with (first | (with_reducible refine Rg.isld (.tmp 4) 28 ?_; refine Rg.lld (.tmp 4) 28 rfl hlD.out ?_) | (go_at_call 18; refine (HC.out _ hb1.out kD1.out.dt).mono ?_; rintro e w5 ⟨CS1, rfl, a5, b5⟩; obtain ⟨w6, st6, k6, oS6⟩ := (show DB w5.heap.size zcD zdk ((w5.alloc (.cells #[.slice none 0 0, .slice none 0 0, .int .i64 0, .int .i64 0, .bool false] 28)).alloc (.cells #[.int .i64 0, .int .i64 0] 31)) from DB.old ⟨Rg.Bk.new rfl, zdk_at _⟩ _).st (a5.out.below (Rg.al2 w5 (.cells #[.slice none 0 0, .slice none 0 0, .int .i64 0, .int .i64 0, .bool false] 28) (.cells #[.int .i64 0, .int .i64 0] 31))); obtain ⟨w7, st7, k7, oI7⟩ := idst ((show Rg.Bk (w5.heap.size + 1) [.int .i64 0, .int .i64 0] 31 ((w5.alloc (.cells #[.slice none 0 0, .slice none 0 0, .int .i64 0, .int .i64 0, .bool false] 28)).alloc (.cells #[.int .i64 0, .int .i64 0] 31)) from Rg.Bk.new (by simp)).same (oS6.block (w5.heap.size + 1) (by omega))) rfl gq nq) | (with_reducible refine Rg.isst (.tmp 8) (.tmp 28) 28 ?_; refine Rg.lst (.tmp 8) (.tmp 28) 28 rfl rfl st6 ?_) | (with_reducible refine Rg.isst (.tmp 9) (.tmp 29) 31 ?_; refine Rg.lst (.tmp 9) (.tmp 29) 31 rfl rfl st7 ?_))
      have hX5 : X < w5.heap.size := (kD1.out.below b5.out).lt
      have hR5 : R < w5.heap.size := (kR1.out.below b5.out).lt
      have hQ5 : Q < w5.heap.size := Nat.lt_of_lt_of_le kO.out.lt b5.out.size
      have hX7w0 : w.heap.size ≤ w5.heap.size := (Rg.chain hb1.out b5.out).size
      have hA5 : ∀ g, A = some ⟨g, 0, none⟩ → g < w5.heap.size := fun g hg => Nat.lt_of_lt_of_le (hAg.out g hg) b5.out.size
      have kZ : DB w5.heap.size zcD zdk ((w5.alloc (.cells #[.slice none 0 0, .slice none 0 0, .int .i64 0, .int .i64 0, .bool false] 28)).alloc (.cells #[.int .i64 0, .int .i64 0] 31)) := DB.old ⟨Rg.Bk.new rfl, zdk_at _⟩ _
      have kI : Rg.Bk (w5.heap.size + 1) [.int .i64 0, .int .i64 0] 31 w6 := (show Rg.Bk (w5.heap.size + 1) [.int .i64 0, .int .i64 0] 31 ((w5.alloc (.cells #[.slice none 0 0, .slice none 0 0, .int .i64 0, .int .i64 0, .bool false] 28)).alloc (.cells #[.int .i64 0, .int .i64 0] 31)) from Rg.Bk.new (by simp)).same (oS6.block (w5.heap.size + 1) (by omega))
      have bA := Rg.al2 w5 (.cells #[.slice none 0 0, .slice none 0 0, .int .i64 0, .int .i64 0, .bool false] 28) (.cells #[.int .i64 0, .int .i64 0] 31)
      have b57 : Below w5.heap.size w5 w7 := (bA.trans (oS6.bel (Nat.le_refl _))).trans (oI7.bel (by omega))
      have kX7 := Rg.hid (k6.onlyI kI (by omega) oI7)
      have kD7 := Rg.hid ((kD1.out.below b5.out).below b57)
      have kR7 := Rg.hid ((kR1.out.below b5.out).below b57)
      have kO7 := Rg.hid ((kO.out.below b5.out kO.out.lt).below b57 hQ5)
      have hz7 := Rg.hid ((hz1.out.below b5.out).below b57)
      have hb7 := Rg.hid (Rg.chain (Rg.chain hb1.out b5.out) b57)
      have hB7 := Rg.hid (Nat.le_trans (Nat.le_trans hB1.out b5.out.size) b57.size)
      have kY7 := Rg.hid k7
      have nAX : Hid (A ≠ some ⟨w5.heap.size, 0, none⟩) := fun c => Nat.lt_irrefl _ (hA5 _ c)
      have nAR : Hid (∀ g, A = some ⟨g, 0, none⟩ → g ≠ X ∧ g ≠ R) := fun g hg => by
        have := (hz7.out.lt hg).1
        have h1 := hXB.out
        have h2 := hRB.out
        omega
      obtain ⟨X7, hX7⟩ : ∃ X7, X7 = w5.heap.size := ⟨_, rfl⟩
      obtain ⟨Y8, hY8⟩ : ∃ Y8, Y8 = w5.heap.size + 1 := ⟨_, rfl⟩
      rw [← hY8] at kY7 ⊢
      rw [← hX7] at kX7 nAX ⊢
      clear hY8 hX7 kZ kI bA k7 k6 oI7 oS6 st6 st7 a5 b5 b57 hX5 hR5 hQ5 hA5 hX7w0 kD1 kR1 kO hz1 hb1 hB1 hlD HC hAg o0 o1 o2 o3 o4 o5 o6 o7 o8 o9 o10 o11
      have hl7 := Rg.hid kX7.out.ld
      rcases hI8.out with ⟨hne, hI9⟩ | ⟨rfl, hI9⟩
      · have e0 : (eq == 0) = false := by simpa using hne
        clear hne hI8 kO7 kY7
        obtain ⟨w8, st8, k8, oS8⟩ := kD7.out.st kX7.out.dt
        go_upto_region 13 with (first | (with_reducible refine Rg.isld (.tmp 8) 28 ?_; refine Rg.lld (.tmp 8) 28 rfl hl7.out ?_) | (with_reducible refine Rg.isst (.tmp 4) (.tmp 50) 28 ?_; refine Rg.lst (.tmp 4) (.tmp 50) 28 rfl rfl st8 ?_))
        have kD9 := Rg.hid k8
        have kR9 : Hid (DB R zcD zdk w8) := ⟨kR7.out.bk.same (oS8.block R nRX.out), zdk_at _⟩
        have hz9 := Rg.hid (hz7.out.only oS8 (fun g hg => (nAR.out g hg).1))
        have hb9 := Rg.hid (hb7.out.trans (oS8.bel hXw.out))
        have hB9 : Hid (B0 ≤ w8.heap.size) := Nat.le_trans hB7.out (Nat.le_of_eq oS8.size.symm)
        replace hI9 := Rg.hid hI9
        clear k8 oS8 st8 kD7 kR7 hz7 hb7 hB7 kX7 hl7
        go_wp2
        go_roundw
        case rel => exact ⟨i + 1, dq, ws, A, cap, CS1, by omega, rfl, by go_num, hI9, Nat.le_succ_of_le hwi.out, kD9, kR9, hz9, hB9, hb9⟩
        case measure => simp [intOf]; omega
      · replace hI9 := Rg.hid hI9
        clear hI8
        have o1 : w7.cell? ⟨Q, 1, none⟩ = some (.string cs) := kO7.out.cell 1
        have o2 : w7.cell? ⟨Q, 2, none⟩ = some (.int .i64 jg) := kO7.out.cell 2
        have o3 : w7.cell? ⟨Q, 3, none⟩ = some (.int .i64 jn) := kO7.out.cell 3
        have o4 : w7.cell? ⟨Q, 4, none⟩ = some (.int .i64 jk) := kO7.out.cell 4
        have o5 : w7.cell? ⟨Q, 5, none⟩ = some (.string ju) := kO7.out.cell 5
        have o6 : w7.cell? ⟨Q, 6, none⟩ = some (.string jf) := kO7.out.cell 6
        have o7 : w7.cell? ⟨Q, 7, none⟩ = some (.string jt) := kO7.out.cell 7
        have o8 : w7.cell? ⟨Q, 8, none⟩ = some (.string jc) := kO7.out.cell 8
        have o9 : w7.cell? ⟨Q, 9, none⟩ = some (.int .i64 jz) := kO7.out.cell 9
        have o10 : w7.cell? ⟨Q, 10, none⟩ = some (.string cx) := kO7.out.cell 10
        go_upto_region 9 with fail
        clear o1 o2 o3 o4 o5 o6 o7 o8 o9 o10
        have kJ8 : Rg.Bk w7.heap.size (Go.Proofs.YtmilfamjkiemaaaGreatDoor.jc ⟨jg, jn, jk, ju, jf, jt, jc, jz⟩) 33 (w7.alloc (.cells #[.int .i64 jg, .int .i64 jn, .int .i64 jk, .string ju, .string jf, .string jt, .string jc, .int .i64 jz] 33)) := Rg.Bk.new rfl
        have bJ := Rg.al1 w7 (.cells #[.int .i64 jg, .int .i64 jn, .int .i64 jk, .string ju, .string jf, .string jt, .string jc, .int .i64 jz] 33)
        have hlI : Hid ((loadVar 31 ⟨Y8, 0, none⟩).run Tryz.prog (w7.alloc (.cells #[.int .i64 jg, .int .i64 jn, .int .i64 jk, .string ju, .string jf, .string jt, .string jc, .int .i64 jz] 33)) = .ok (.agg #[.int .i64 gq, .int .i64 nq]) (w7.alloc (.cells #[.int .i64 jg, .int .i64 jn, .int .i64 jk, .string ju, .string jf, .string jt, .string jc, .int .i64 jz] 33))) := idld (kY7.out.below bJ kY7.out.lt)
        obtain ⟨w9, st9, k9, o9⟩ := jidst kJ8 gq nq
        have b79 : Hid (Below w7.heap.size w7 w9) := bJ.trans (o9.bel (Nat.le_refl _))
        have kJ9 := Rg.hid k9
        replace st9 := Rg.hid st9
        generalize World.alloc _ _ = w8 at *
        obtain ⟨J, hJ⟩ : ∃ J, J = w7.heap.size := ⟨_, rfl⟩
        have hJ7 : Hid (w7.heap.size ≤ J) := Nat.le_of_eq hJ.symm
        rw [← hJ] at kJ9 st9 ⊢
        clear hJ kJ8 bJ k9 o9
        go_upto_region 10 with (first | (with_reducible refine Rg.isld (.tmp 9) 31 ?_; refine Rg.lld (.tmp 9) 31 rfl hlI.out ?_) | (with_reducible refine Rg.isst (.tmp 36) (.tmp 35) 31 ?_; refine Rg.lst (.tmp 36) (.tmp 35) 31 rfl rfl st9.out ?_))
        clear st9 hlI kY7
        have kO9 := Rg.hid (kO7.out.below b79.out kO7.out.lt)
        have o10 : w9.cell? ⟨Q, 10, none⟩ = some (.string cx) := kO9.out.cell 10
        have j7 : w9.cell? ⟨J, 7, none⟩ = some (.int .i64 jz) := kJ9.out.cell 7
        have jfz := kJ9.out.thaw
        have jl := kJ9.out.lt
        go_upto_region 11 with fail
        have kJ10 : Hid (Rg.Bk J (Go.Proofs.YtmilfamjkiemaaaGreatDoor.jc ⟨gq, nq, jk, ju, jf, jt, jc, (cx.size : Int)⟩) 33 (w9.setCell ⟨J, 7, none⟩ (.int .i64 (cx.size : Int)))) := kJ9.out.set 7 _
        have b710 : Hid (Below w7.heap.size w7 (w9.setCell ⟨J, 7, none⟩ (.int .i64 (cx.size : Int)))) := b79.out.trans ((Rg.Only.setCell w9 J 7 _).bel hJ7.out)
        generalize World.setCell _ _ _ = w10 at *
        clear o10 j7 jfz jl kJ9 kO9 b79 hJ7
        have kX10 := Rg.hid (kX7.out.below b710.out)
        have kD10 := Rg.hid (kD7.out.below b710.out)
        have kR10 := Rg.hid (kR7.out.below b710.out)
        have kO10 := Rg.hid (kO7.out.below b710.out kO7.out.lt)
        have hz10 := Rg.hid (hz7.out.below b710.out)
        have hb10 := Rg.hid (Rg.chain hb7.out b710.out)
        have hB10 := Rg.hid (Nat.le_trans hB7.out b710.out.size)
        clear kX7 kD7 kR7 kO7 hz7 hb7 hB7 b710 hl7
        have o1 : w10.cell? ⟨Q, 1, none⟩ = some (.string cs) := kO10.out.cell 1
        have o10 : w10.cell? ⟨Q, 10, none⟩ = some (.string cx) := kO10.out.cell 10
        have hlJ : Hid ((loadVar 33 ⟨J, 0, none⟩).run Tryz.prog w10 = .ok (.agg #[.int .i64 gq, .int .i64 nq, .int .i64 jk, .string ju, .string jf, .string jt, .string jc, .int .i64 (cx.size : Int)]) w10) := jld kJ10.out
        have bE := Rg.al1 w10 (.cells #[.string cs, .int .i64 gq, .int .i64 nq, .int .i64 jk, .string ju, .string jf, .string jt, .string jc, .int .i64 (cx.size : Int), .string cx] 42)
        have hx : Rg.At (w10.alloc (.cells #[.string cs, .int .i64 gq, .int .i64 nq, .int .i64 jk, .string ju, .string jf, .string jt, .string jc, .int .i64 (cx.size : Int), .string cx] 42)) w10.heap.size 0 (heldE.enc ⟨cs, ⟨gq, nq, jk, ju, jf, jt, jc, (cx.size : Int)⟩, cx⟩) := by
          have kb : Rg.Bk w10.heap.size [.string cs, .int .i64 gq, .int .i64 nq, .int .i64 jk, .string ju, .string jf, .string jt, .string jc, .int .i64 (cx.size : Int), .string cx] 42 (w10.alloc (.cells #[.string cs, .int .i64 gq, .int .i64 nq, .int .i64 jk, .string ju, .string jf, .string jt, .string jc, .int .i64 (cx.size : Int), .string cx] 42)) := Rg.Bk.new rfl
          intro t u ht
          rw [Nat.zero_add, kb.cell, ← ht]
          rfl
        obtain ⟨W', A', cap', hap, hz11, b11, hkeep, hdk⟩ := (hz10.out.below bE).append ⟨cs, ⟨gq, nq, jk, ju, jf, jt, jc, (cx.size : Int)⟩, cx⟩ w10.heap.size hx (Nat.le_trans hB10.out bE.size) hws.out
        replace hap := Rg.hid hap
        have kX11 : Hid (DB X7 CS1 dq W') := ⟨((kX10.out.below bE).bk).same (hkeep X7 (kX10.out.below bE).lt nAX.out), hdk _ dq (kX10.out.below bE).dt hI9.out.calm.ops hI9.out.calm.que.ne hI9.out.file⟩
        obtain ⟨w12, st12, k12, oS12⟩ := kD10.out.stB ((kD10.out.below bE).bk.same (b11.block X hXB.out)) kX11.out.dt
        have hl11 := Rg.hid kX11.out.ld
        have kD12 := Rg.hid k12
        have kR12 : Hid (DB R zcD zdk w12) := ⟨((kR10.out.below bE).bk.same (b11.block R hRB.out)).same (oS12.block R nRX.out), zdk_at _⟩
        have hz12 := Rg.hid (hz11.only oS12 (fun g hg => by have := (hz11.lt hg).1; have h1 := hXB.out; omega))
        have hb12 := Rg.hid ((Below.trans (Rg.chain hb10.out bE) (b11.mono hBw.out)).trans (oS12.bel hXw.out))
        have hB12 : Hid (B0 ≤ w12.heap.size) := Nat.le_trans (Nat.le_trans hB10.out bE.size) (Nat.le_trans b11.size (Nat.le_of_eq oS12.size.symm))
        have hln : Hid (ws.length + 1 = (ws ++ [(⟨cs, ⟨gq, nq, jk, ju, jf, jt, jc, (cx.size : Int)⟩, cx⟩ : Spl.Hd)]).length) := by show _ = _; simp
        clear hx b11 bE hkeep hdk hz11 kX10 kD10 kR10 kO10 hz10 hb10 hB10 kX11 k12 oS12 kJ10
        go_upto_region 13 with (first | (with_reducible refine Rg.isld (.tmp 11) 33 ?_; refine Rg.lld (.tmp 11) 33 rfl hlJ.out ?_) | (at_builtin; refine Rg.wpList_append_run rfl (.tmp 41) (.tmp 48) 49 rfl _ _ rfl rfl _ _ hap.out ?_) | (with_reducible refine Rg.isld (.tmp 8) 28 ?_; refine Rg.lld (.tmp 8) 28 rfl hl11.out ?_) | (with_reducible refine Rg.isst (.tmp 4) (.tmp 50) 28 ?_; refine Rg.lst (.tmp 4) (.tmp 50) 28 rfl rfl st12 ?_))
        clear hap st12 o1 o10 hlJ hl11
        go_wp2
        go_roundw
        case rel => exact ⟨i + 1, dq, ws ++ [⟨cs, ⟨gq, nq, jk, ju, jf, jt, jc, (cx.size : Int)⟩, cx⟩], A', cap', CS1, by omega, by rw [hln.out], by go_num, hI9, by show _ ≤ _; rw [← hln.out]; exact Nat.succ_le_succ hwi.out, kD12, kR12, hz12, hB12, hb12⟩
        case measure => simp [intOf]; omega
    · have hiN : i = N := by omega
      subst hiN
      clear hrow hfit
      obtain ⟨w5, st5, k5, o5⟩ := kRr.out.st kD.out.dt
      have hlD := Rg.hid kD.out.ld
      have hzr : Hid (heldE.Row w5 A ws ∧ ws.length ≤ cap) := ⟨(hz.out.only o5 (fun g hg => by have := (hz.out.lt hg).1; have h1 := hRB.out; omega)).row, hz.out.le⟩
      have hb5 := Rg.hid (hbw.out.trans (o5.bel hRw.out))
      have k5' := Rg.hid k5
      clear k5 o5
      go_wp2_with (first | (with_reducible refine Rg.isld (.tmp 4) 28 ?_; refine Rg.lld (.tmp 4) 28 rfl hlD.out ?_) | (with_reducible refine Rg.isst (.tmp 2) (.tmp 52) 28 ?_; refine Rg.lst (.tmp 2) (.tmp 52) 28 rfl rfl st5 ?_))
      exact bodyPost_ret (v := .tuple #[.agg CS, .slice A ws.length cap]) (Rg.res2 rfl rfl rfl k5'.out.ld) rfl (show FullPost i w _ w5 from ⟨CS, A, cap, d, ws, rfl, k5'.out.dt, hzr, hb5, hI, hwi⟩)
end Go.Proofs.YtmilfamjkiemaaaGreatDoor

namespace Go.Proofs.YtmilfamjkiemaaaGreatDoor
open Go.RowKit
theorem neq_held_self (s u f t c x : ByteArray) (g n k z : Int) (w : World) :
    (binOp .neq 42 (.agg #[.string s, .int .i64 g, .int .i64 n, .int .i64 k, .string u, .string f, .string t, .string c, .int .i64 z, .string x]) (.agg #[.string s, .int .i64 g, .int .i64 n, .int .i64 k, .string u, .string f, .string t, .string c, .int .i64 z, .string x])).run Tryz.prog w
      = .ok (.bool false) w := by
  simp [go_sem]
end Go.Proofs.YtmilfamjkiemaaaGreatDoor

namespace Go.Proofs.YtmilfamjkiemaaaGreatDoor
open Go.RowKit
set_option maxRecDepth 100000 in
theorem eql_held (s u f t c x : ByteArray) (g n k z : Int) (s' u' f' t' c' x' : ByteArray) (g' n' k' z' : Int) (w : World) :
    (binOp .eql 42 (.agg #[.string s, .int .i64 g, .int .i64 n, .int .i64 k, .string u, .string f, .string t, .string c, .int .i64 z, .string x]) (.agg #[.string s', .int .i64 g', .int .i64 n', .int .i64 k', .string u', .string f', .string t', .string c', .int .i64 z', .string x'])).run Tryz.prog w
      = .ok (.bool (decide ((⟨s, ⟨g, n, k, u, f, t, c, z⟩, x⟩ : Spl.Hd) = ⟨s', ⟨g', n', k', u', f', t', c', z'⟩, x'⟩))) w := by
  simp [go_sem]
  simp only [tl_inj]
  by_cases h0 : s = s'
  · subst h0
    try rw [if_pos rfl]
    by_cases h1 : g = g'
    · subst h1
      try rw [if_pos rfl]
      by_cases h2 : n = n'
      · subst h2
        try rw [if_pos rfl]
        by_cases h3 : k = k'
        · subst h3
          try rw [if_pos rfl]
          by_cases h4 : u = u'
          · subst h4
            try rw [if_pos rfl]
            by_cases h5 : f = f'
            · subst h5
              try rw [if_pos rfl]
              by_cases h6 : t = t'
              · subst h6
                try rw [if_pos rfl]
                by_cases h7 : c = c'
                · subst h7
                  try rw [if_pos rfl]
                  by_cases h8 : z = z'
                  · subst h8
                    try rw [if_pos rfl]
                    by_cases h9 : x = x'
                    · subst h9
                      simp
                    · first | (rw [if_neg h9]; simp [h9]) | simp [h9]
                  · first | (rw [if_neg h8]; simp [h8]) | simp [h8]
                · first | (rw [if_neg h7]; simp [h7]) | simp [h7]
              · first | (rw [if_neg h6]; simp [h6]) | simp [h6]
            · first | (rw [if_neg h5]; simp [h5]) | simp [h5]
          · first | (rw [if_neg h4]; simp [h4]) | simp [h4]
        · first | (rw [if_neg h3]; simp [h3]) | simp [h3]
      · first | (rw [if_neg h2]; simp [h2]) | simp [h2]
    · first | (rw [if_neg h1]; simp [h1]) | simp [h1]
  · first | (rw [if_neg h0]; simp [h0]) | simp [h0]
end Go.Proofs.YtmilfamjkiemaaaGreatDoor
