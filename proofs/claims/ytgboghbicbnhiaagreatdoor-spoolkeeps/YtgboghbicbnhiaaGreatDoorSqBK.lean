/-
  Layer 18: SpoolKeeps' walk.
-/
import Derived.Test.YtgboghbicbnhiaaGreatDoorSqBI
import Derived.Test.YtgboghbicbnhiaaGreatDoorSqBJ
namespace Go.Proofs.YtgboghbicbnhiaaGreatDoor
open Go.RowKit
theorem held_cell {W : World} {A : Option Addr} {ws : List Spl.Hd} (h : heldE.Row W A ws) {i : Nat} (hi : i < ws.length) : ∃ b o, A = some ⟨b, o, none⟩ ∧ Rg.At W b (o + i * 10) (heldE.enc ws[i]) := by
  rcases h with ⟨_, rfl⟩ | ⟨b, o, h1, h2, h3⟩
  · simp at hi
  · exact ⟨b, o, h1, h3.elem hi⟩
theorem kth (x : Int) {M : Nat} (hM : 0 < M) (h6 : M ≤ 60) : ∃ k : Nat, k < M ∧ wrap64 ((IntKind.u64.wrap x).tmod (M : Int)) = (k : Int) := by
  have h : 0 ≤ IntKind.u64.wrap x := by rw [IntKind.wrap_u64]; omega
  have h1 := Int.emod_nonneg (IntKind.u64.wrap x) (show (M : Int) ≠ 0 by omega)
  have h2 := Int.emod_lt_of_pos (IntKind.u64.wrap x) (show (0 : Int) < (M : Int) by omega)
  refine ⟨(IntKind.u64.wrap x % (M : Int)).toNat, by omega, ?_⟩
  rw [Int.tmod_eq_emod_of_nonneg h]
  unfold wrap64
  omega
set_option maxHeartbeats 2000000 in
set_option maxRecDepth 100000 in
theorem keeps_walk (a : Option Addr) (ca : Nat) (l : List Spl.SOp) (hn : l.length ≤ maxLen) (hfit : ∀ c ∈ l, SFits c) (which : Int) (hw1 : -9223372036854775808 ≤ which) (hw2 : which ≤ 9223372036854775807) (fails : Bool) (w : World) (hrow : SRow0 w a l) (hw : Ok w) :
    Calls Tryz.prog 4 #[.slice a l.length ca, .int .i64 which, .bool fails] w fun e w' => e = .returned (.bool true) ∧ Below w.heap.size w w' := by
  have HFr : Hid (Calls Tryz.prog 8 #[.slice a l.length ca] w fun e w' => FarPost l.length w e w') := far_any a ca l w hn hfit hrow
  have HA : Hid (∀ W, Below w.heap.size w W → Calls Tryz.prog 9 #[] W fun e w' => e = .returned (.bool true) ∧ Below w.heap.size w w') := fun W hW => (sawake_any W (hw.below hW)).mono fun e w' ⟨h1, h2⟩ => ⟨h1, Rg.chain hW h2⟩
  have HU : Hid (l.length ≤ 60 → ∀ W, Below w.heap.size w W → Calls Tryz.prog 26 #[.slice a l.length ca] W fun e w' => FullPost l.length W e w') := fun hl W hW => full_any a ca l hl hfit W (hrow.below hW) (hw.below hW)
  obtain ⟨N, hN⟩ : ∃ N, N = l.length := ⟨_, rfl⟩
  rw [← hN] at HFr HU ⊢
  replace hw := Rg.hid hw
  replace hw1 := Rg.hid hw1
  replace hw2 := Rg.hid hw2
  clear hn hrow hfit hN
  go_enter Tryz.func4, Tryz.ntmps4
  go_upto_region 1 with fail
  go_wp2_with (go_at_call 8; refine HFr.out.mono ?_)
  intro e w1 h1
  obtain ⟨B, rfl, hB, b1⟩ := h1
  cases B
  case true =>
    go_wp2_with (go_at_call 9; refine (HA.out _ b1.out).mono ?_; rintro e w2 ⟨rfl, b2⟩)
    go_ret
    exact ⟨rfl, b2⟩
  case false =>
    have hlen : N ≤ 60 := hB.out rfl
    replace HU := Rg.hid (HU.out hlen)
    clear hB HFr
    unfold FullPost at HU
    go_upto_region 4 with (first | (go_at_call 26; refine (HU.out _ b1.out).mono ?_; rintro e w2 ⟨CS, A, cap, d, ws, rfl, a2, r2, b2, hI, hwn⟩; obtain ⟨w4, st4, k4, o4⟩ := (show DB w2.heap.size zcD zdk (w2.alloc (.cells #[.slice none 0 0, .slice none 0 0, .int .i64 0, .int .i64 0, .bool false] 28)) from ⟨Rg.Bk.new rfl, zdk_at _⟩).st (a2.out.below (Rg.al1 w2 (.cells #[.slice none 0 0, .slice none 0 0, .int .i64 0, .int .i64 0, .bool false] 28)))) | (with_reducible refine Rg.isst (.tmp 7) (.tmp 27) 28 ?_; refine Rg.lst (.tmp 7) (.tmp 27) 28 rfl rfl st4 ?_))
    have hm6 : Hid (N * 6300 ≤ 1000000) := by show _ ≤ _; omega
    have hrow := Rg.hid (held_onlyB (r2.out.1.below (Rg.al1 w2 (.cells #[.slice none 0 0, .slice none 0 0, .int .i64 0, .int .i64 0, .bool false] 28))) (show DB w2.heap.size zcD zdk (w2.alloc (.cells #[.slice none 0 0, .slice none 0 0, .int .i64 0, .int .i64 0, .bool false] 28)) from ⟨Rg.Bk.new rfl, zdk_at _⟩) o4)
    have hb4 := Rg.hid (Rg.chain (Rg.chain b1.out b2.out) ((Rg.al1 w2 (.cells #[.slice none 0 0, .slice none 0 0, .int .i64 0, .int .i64 0, .bool false] 28)).trans (o4.bel (Nat.le_refl _))))
    have hXw0 : w.heap.size ≤ w2.heap.size := (Rg.chain b1.out b2.out).size
    have kX := Rg.hid k4
    obtain ⟨X, hX⟩ : ∃ X, X = w2.heap.size := ⟨_, rfl⟩
    rw [← hX] at kX hXw0 ⊢
    have hXw := Rg.hid hXw0
    clear hX hXw0 st4 k4 o4 a2 r2 b2 b1 HU
    obtain ⟨M, hM⟩ : ∃ M, M = ws.length := ⟨_, rfl⟩
    rw [← hM] at hwn ⊢
    replace hM := Rg.hid hM
    have hmn : M ≤ N := hwn.out
    have hmm := @run_makeMap Tryz.prog
    have mb0 := Rg.hid (MB.new w4)
    have kX2 := Rg.hid (kX.out.old (.map #[] 0))
    have hrow2 := Rg.hid (hrow.out.below (Rg.al1 w4 (.map #[] 0)))
    have hb5 := Rg.hid (Rg.chain hb4.out (Rg.al1 w4 (.map #[] 0)))
    have hrw0 : w.heap.size ≤ w4.heap.size := hb4.out.size
    have nXr0 : X ≠ w4.heap.size := Nat.ne_of_lt kX.out.lt
    clear kX hb4 hrow hwn
    go_upto_region 5 with fail
    generalize World.alloc _ _ = w5 at *
    obtain ⟨r, hr⟩ : ∃ r, r = w4.heap.size := ⟨_, rfl⟩
    rw [← hr] at mb0 hrw0 nXr0 ⊢
    have hrw := Rg.hid hrw0
    have nXr := Rg.hid nXr0
    clear hr hmm hrw0 nXr0
    go_wp2
    go_loopw [32] (fun vi wr => ∃ (i : Nat), i ≤ M ∧ vi = .int .i64 i ∧ Hid (DB X CS d wr) ∧ Hid (heldE.Row wr A ws) ∧ Hid (MB wr r ((ws.take i).map (fun a => a.j.n))) ∧ Hid (Below w.heap.size w wr)) (fun vi _ => M - (intOf vi).toNat)
    case atStart => exact ⟨0, Nat.zero_le _, rfl, kX2, hrow2, mb0, hb5⟩
    case round =>
      obtain ⟨i, hin, rfl, kD, hrow, mb, hbw⟩ := hrel
      clear kX2 hrow2 mb0 hb5
      by_cases hlt : i < M
      · have hil : i < ws.length := by rw [← hM.out]; exact hlt
        obtain ⟨rb, ro, rfl, hat⟩ := held_cell hrow.out hil
        have hfr := hI.out.fresh hil
        have hks := Spl.keys_succ hil
        have hld := hI.out.calm.load (List.getElem_mem hil)
        have hgr := hI.out.gr _ (List.getElem_mem hil)
        have hsz := Rg.hid (hI.out.sz _ (List.getElem_mem hil))
        replace hks := Rg.hid hks
        generalize (ws.take i).map (fun a => a.j.n) = ks at *
        generalize ws[i] = h at *
        obtain ⟨hs, ⟨hg, hn, hk, hu, hf, ht, hc0, hz⟩, hx⟩ := h
        obtain ⟨c0, c1, c2, c3, c4, c5, c6, c7, c8, c9⟩ := held_at hat
        dsimp only at c0 c1 c2 c3 c4 c5 c6 c7 c8 c9 hfr hks hld hgr hsz
        have e0 : (hg == 0) = false := by simpa using hgr
        have iz0 : (0 : Int) ≤ (i : Int) := by omega
        have iz1 : (i : Int) < (M : Int) := by omega
        have bH := Rg.al1 wr (.cells #[.string hs, .int .i64 hg, .int .i64 hn, .int .i64 hk, .string hu, .string hf, .string ht, .string hc0, .int .i64 hz, .string hx] 42)
        have kH : Hid (Rg.Bk wr.heap.size [.string hs, .int .i64 hg, .int .i64 hn, .int .i64 hk, .string hu, .string hf, .string ht, .string hc0, .int .i64 hz, .string hx] 42 (wr.alloc (.cells #[.string hs, .int .i64 hg, .int .i64 hn, .int .i64 hk, .string hu, .string hf, .string ht, .string hc0, .int .i64 hz, .string hx] 42))) := Rg.Bk.new rfl
        have kD1 := Rg.hid (kD.out.below bH)
        have mb1 := Rg.hid (mb.out.below bH)
        have hrow1 := Rg.hid (hrow.out.below bH)
        have hb1 := Rg.hid (Rg.chain hbw.out bH)
        have HC : Hid (∀ W, Below w.heap.size w W → DAt W (.agg CS) d → Calls Tryz.prog 16 #[.agg CS, .string hs, .agg #[.int .i64 hg, .int .i64 hn]] W fun e w' => e = .returned (.tuple #[.agg #[.string hs, .int .i64 hg, .int .i64 hn, .int .i64 hk, .string hu, .string hf, .string ht, .string hc0, .int .i64 hz, .string hx], .int .i64 0]) ∧ Below W.heap.size W w') := fun W hW hv => by
          have := load_any _ d hs hg hn W hI.out.fit.sm.ok (Fit.mild hI.out.fit hm6.out) hsz.out hv (hw.out.below hW)
          rw [hld] at this
          exact this
        replace hfr := Rg.hid hfr
        clear hat hgr hld
        go_upto_region 8 with fail
        generalize World.alloc _ _ = wa at *
        obtain ⟨Q, hQ⟩ : ∃ Q, Q = wr.heap.size := ⟨_, rfl⟩
        rw [← hQ] at kH ⊢
        clear hQ c0 c1 c2 c3 c4 c5 c6 c7 c8 c9 hbw bH kD mb hrow
        have h0 : wa.cell? ⟨Q, 0, none⟩ = some (.string hs) := kH.out.cell 0
        have h1 : wa.cell? ⟨Q, 1, none⟩ = some (.int .i64 hg) := kH.out.cell 1
        have h2 : wa.cell? ⟨Q, 2, none⟩ = some (.int .i64 hn) := kH.out.cell 2
        have hlD := Rg.hid kD1.out.ld
        go_upto_region 9 with (first | (with_reducible refine Rg.isld (.tmp 7) 28 ?_; refine Rg.lld (.tmp 7) 28 rfl hlD.out ?_) | (go_at_call 16; refine (HC.out _ hb1.out kD1.out.dt).mono ?_; rintro e wb ⟨rfl, bb⟩))
        have bG := Rg.al1 wb (.cells #[.string hs, .int .i64 hg, .int .i64 hn, .int .i64 hk, .string hu, .string hf, .string ht, .string hc0, .int .i64 hz, .string hx] 42)
        have kG : Hid (Rg.Bk wb.heap.size [.string hs, .int .i64 hg, .int .i64 hn, .int .i64 hk, .string hu, .string hf, .string ht, .string hc0, .int .i64 hz, .string hx] 42 (wb.alloc (.cells #[.string hs, .int .i64 hg, .int .i64 hn, .int .i64 hk, .string hu, .string hf, .string ht, .string hc0, .int .i64 hz, .string hx] 42))) := Rg.Bk.new rfl
        have kD2 := Rg.hid ((kD1.out.below bb).below bG)
        have mb2 := Rg.hid ((mb1.out.below bb).below bG)
        have hrow2 := Rg.hid ((hrow1.out.below bb).below bG)
        have hb2 := Rg.hid (Rg.chain (Rg.chain hb1.out bb) bG)
        have kH2 := Rg.hid ((kH.out.below bb kH.out.lt).below bG (Nat.lt_of_lt_of_le kH.out.lt bb.size))
        generalize World.alloc _ _ = wc at *
        obtain ⟨G, hG⟩ : ∃ G, G = wb.heap.size := ⟨_, rfl⟩
        rw [← hG] at kG ⊢
        clear hG h0 h1 h2 hlD HC kD1 mb1 hrow1 hb1 kH bb bG
        have hlG : Hid ((loadVar 42 ⟨G, 0, none⟩).run Tryz.prog wc = .ok (.agg #[.string hs, .int .i64 hg, .int .i64 hn, .int .i64 hk, .string hu, .string hf, .string ht, .string hc0, .int .i64 hz, .string hx]) wc) := hld (h := ⟨hs, ⟨hg, hn, hk, hu, hf, ht, hc0, hz⟩, hx⟩) kG.out
        have hlH : Hid ((loadVar 42 ⟨Q, 0, none⟩).run Tryz.prog wc = .ok (.agg #[.string hs, .int .i64 hg, .int .i64 hn, .int .i64 hk, .string hu, .string hf, .string ht, .string hc0, .int .i64 hz, .string hx]) wc) := hld (h := ⟨hs, ⟨hg, hn, hk, hu, hf, ht, hc0, hz⟩, hx⟩) kH2.out
        have h1 : wc.cell? ⟨Q, 1, none⟩ = some (.int .i64 hg) := kH2.out.cell 1
        have h2 : wc.cell? ⟨Q, 2, none⟩ = some (.int .i64 hn) := kH2.out.cell 2
        have EQ : ∀ W, (binOp .neq 42 (.agg #[.string hs, .int .i64 hg, .int .i64 hn, .int .i64 hk, .string hu, .string hf, .string ht, .string hc0, .int .i64 hz, .string hx]) (.agg #[.string hs, .int .i64 hg, .int .i64 hn, .int .i64 hk, .string hu, .string hf, .string ht, .string hc0, .int .i64 hz, .string hx])).run Tryz.prog W = .ok (.bool false) W := fun W => neq_held_self hs hu hf ht hc0 hx hg hn hk hz W
        have hlk := mb2.out.lookup hfr.out
        obtain ⟨wd, hup, mb3, oM⟩ := mb2.out.update hfr.out
        have kD3 := Rg.hid (mb2.out.db oM kD2.out)
        have hrow3 := Rg.hid (mb2.out.erow oM hrow2.out)
        have hb3 := Rg.hid (hb2.out.trans (oM.bel hrw.out))
        replace mb3 := Rg.hid mb3
        replace oM := Rg.hid oM
        go_upto_region 12 with (first | (with_reducible refine Rg.isld (.tmp 12) 42 ?_; refine Rg.lld (.tmp 12) 42 rfl hlG.out ?_) | (with_reducible refine Rg.isld (.tmp 11) 42 ?_; refine Rg.lld (.tmp 11) 42 rfl hlH.out ?_))
        clear hlk hup oM mb2 hb2 kD2 hrow2 kG kH2 h1 h2 EQ hlG hlH e0
        go_wp2
        go_roundw
        case rel => exact ⟨i + 1, by omega, by go_num, kD3, hrow3, by rw [hks.out]; exact mb3, hb3⟩
        case measure => simp [intOf]; omega
      · have hiN : i = M := by omega
        subst hiN
        clear mb
        have HJ : Hid (∀ W, Below w.heap.size w W → DAt W (.agg CS) d → Calls Tryz.prog 22 #[.agg CS, .string ⟨#[]⟩] W fun e w' => ∃ a c, e = .returned (.slice a i c) ∧ Below W.heap.size W w') := fun W hW hv => (jobs_any _ d ⟨#[]⟩ W hI.out.fit.sm.ok (Fit.mild hI.out.fit hm6.out) hv (hw.out.below hW)).mono fun e w' ⟨a, c, L, h1, h2, h3, h4⟩ => ⟨a, c, by rw [h1, (hI.out.calm.jobs h2.out).length_eq, ← hM.out], h4.out⟩
        have hlD := Rg.hid kD.out.ld
        go_upto_region 15 with (first | (with_reducible refine Rg.isld (.tmp 7) 28 ?_; refine Rg.lld (.tmp 7) 28 rfl hlD.out ?_) | (go_at_call 22; refine (HJ.out _ hbw.out kD.out.dt).mono ?_; rintro e w6 ⟨ja, jc, rfl, b6⟩))
        have kD6 := Rg.hid (kD.out.below b6)
        have hrow6 := Rg.hid (hrow.out.below b6)
        have hb6 := Rg.hid (Rg.chain hbw.out b6)
        clear hlD HJ kD hrow hbw b6
        by_cases hi0 : i = 0
        · subst hi0
          go_wp2_with (go_at_call 9; refine (HA.out _ hb6.out).mono ?_; rintro e w7 ⟨rfl, b7⟩)
          go_ret
          exact ⟨rfl, b7⟩
        have ei : ((i : Int) == 0) = false := by simpa using hi0
        have hip : 0 < i := by omega
        go_upto_region 18 with fail
        obtain ⟨k, hki, ek⟩ := kth which hip (by omega)
        rw [ek]
        clear ek
        have hil : k < ws.length := by rw [← hM.out]; exact hki
        obtain ⟨rb, ro, rfl, hat⟩ := held_cell hrow6.out hil
        have hZ := Rg.hid hI.out.sz
        have hsz := Rg.hid (hI.out.sz _ (List.getElem_mem hil))
        have HDn := hI.out.done hm6.out hil
        have HFl := hI.out.fail hm6.out hil
        have hcD := fun (W : World) (hW : Below w.heap.size w W) (hv : DAt W (.agg CS) d) => done_any _ d ws[k].s ws[k].j.g ws[k].j.n W hI.out.fit hm6.out hsz.out hv (hw.out.below hW)
        have hcF := fun (W : World) (hW : Below w.heap.size w W) (hv : DAt W (.agg CS) d) => fail_any _ d ws[k].s ws[k].j.g ws[k].j.n W hI.out.fit hm6.out hsz.out hv (hw.out.below hW)
        generalize ws[k] = h at *
        obtain ⟨hs, ⟨hg, hn, hk, hu, hf, ht, hc0, hz⟩, hx⟩ := h
        obtain ⟨c0, c1, c2, c3, c4, c5, c6, c7, c8, c9⟩ := held_at hat
        dsimp only at c0 c1 c2 c3 c4 c5 c6 c7 c8 c9 HDn HFl hcD hcF hsz
        replace hcD := Rg.hid hcD
        replace hcF := Rg.hid hcF
        replace HDn := Rg.hid HDn
        replace HFl := Rg.hid HFl
        have kz0 : (0 : Int) ≤ (k : Int) := by omega
        have kz1 : (k : Int) < (i : Int) := by omega
        have bH := Rg.al1 w6 (.cells #[.string hs, .int .i64 hg, .int .i64 hn, .int .i64 hk, .string hu, .string hf, .string ht, .string hc0, .int .i64 hz, .string hx] 42)
        have kH : Hid (Rg.Bk w6.heap.size [.string hs, .int .i64 hg, .int .i64 hn, .int .i64 hk, .string hu, .string hf, .string ht, .string hc0, .int .i64 hz, .string hx] 42 (w6.alloc (.cells #[.string hs, .int .i64 hg, .int .i64 hn, .int .i64 hk, .string hu, .string hf, .string ht, .string hc0, .int .i64 hz, .string hx] 42))) := Rg.Bk.new rfl
        have kD7 := Rg.hid (kD6.out.below bH)
        have hrow7 := Rg.hid (hrow6.out.below bH)
        have hb7 := Rg.hid (Rg.chain hb6.out bH)
        clear hat hsz hI
        go_upto_region 19 with fail
        generalize World.alloc _ _ = w7 at *
        obtain ⟨Q, hQ⟩ : ∃ Q, Q = w6.heap.size := ⟨_, rfl⟩
        rw [← hQ] at kH ⊢
        clear hQ c0 c1 c2 c3 c4 c5 c6 c7 c8 c9 hb6 bH kD6 hrow6
        have h0 : w7.cell? ⟨Q, 0, none⟩ = some (.string hs) := kH.out.cell 0
        have h1 : w7.cell? ⟨Q, 1, none⟩ = some (.int .i64 hg) := kH.out.cell 1
        have h2 : w7.cell? ⟨Q, 2, none⟩ = some (.int .i64 hn) := kH.out.cell 2
        have hlD := Rg.hid kD7.out.ld
        obtain ⟨p, hp⟩ : ∃ p, p = i - 1 := ⟨_, rfl⟩
        have hsub0 : (p : Int) = (i : Int) - 1 := by omega
        have hsub : ((p : Int) != (i : Int) - 1) = false := by rw [hsub0]; simp
        clear hsub0
        have hpM : Hid (ws.length - 1 = p) := by show _ = _; rw [← hM.out]; exact hp.symm
        clear hp
        cases fails
        case false =>
          obtain ⟨e0, hL⟩ := HDn.out
          have HC : Hid (∀ W, Below w.heap.size w W → DAt W (.agg CS) d → Calls Tryz.prog 12 #[.agg CS, .string hs, .agg #[.int .i64 hg, .int .i64 hn]] W fun e w' => V2Post W ((Spl.done d hs hg hn).1, 0) e w') := by
            have := hcD.out
            refine Rg.hid fun W hW hv => (this W hW hv).mono fun e w' q => ?_
            rw [← e0]
            exact q
          clear e0 HDn HFl hcD hcF
          generalize (Spl.done d hs hg hn).1 = d2 at *
          replace hL := Rg.hid hL
          have hm12 : Hid (N * 6300 + 6300 ≤ 1000000) := by show _ ≤ _; omega
          unfold V2Post at HC
          dsimp only at HC
          go_upto_region 23 with (first | (with_reducible refine Rg.isld (.tmp 7) 28 ?_; refine Rg.lld (.tmp 7) 28 rfl hlD.out ?_) | (go_at_call 12; refine (HC.out _ hb7.out kD7.out.dt).mono ?_; rintro e w8 ⟨CS2, rfl, a8, b8⟩; obtain ⟨w9, st9, k9, o9⟩ := (kD7.out.below b8.out).st a8.out) | (with_reducible refine Rg.isst (.tmp 7) (.tmp 114) 28 ?_; refine Rg.lst (.tmp 7) (.tmp 114) 28 rfl rfl st9 ?_))
          have kD9 := Rg.hid k9
          have hrow9 := Rg.hid (held_onlyB (hrow7.out.below b8.out) (kD7.out.below b8.out) o9)
          have hb9 := Rg.hid ((Rg.chain hb7.out b8.out).trans (o9.bel hXw.out))
          clear k9 o9 st9 a8 b8 kD7 hrow7 hb7 hlD HC h0 h1 h2 kH
          have HJ : Hid (∀ W, Below w.heap.size w W → DAt W (.agg CS2) d2 → Calls Tryz.prog 22 #[.agg CS2, .string ⟨#[]⟩] W fun e w' => ∃ a c, e = .returned (.slice a p c) ∧ Below W.heap.size W w') := fun W hW hv => (jobs_any _ d2 ⟨#[]⟩ W hL.out.fit.sm.ok (Fit.mild hL.out.fit hm12.out) hv (hw.out.below hW)).mono fun e w' ⟨a, c, L, h1, h2, h3, h4⟩ => ⟨a, c, by rw [h1, hL.out.jobs hil h2.out, hpM.out], h4.out⟩
          have HE : Hid (∀ W, Below w.heap.size w W → DAt W (.agg CS2) d2 → Calls Tryz.prog 24 #[.agg CS2, .string ⟨#[]⟩] W fun e w' => ∃ a c, e = .returned (.slice a 0 c) ∧ Below W.heap.size W w') := fun W hW hv => (failed_any _ d2 ⟨#[]⟩ W hL.out.fit.sm.ok (Fit.mild hL.out.fit hm12.out) hv (hw.out.below hW)).mono fun e w' q => by
            obtain ⟨a, c, h1, h2⟩ := q.len
            have h3 : ((Dsk.files d2).filterMap (Spl.pick (Dsk.files d2) 69 ⟨#[]⟩)).length = 0 := hL.out.fl
            rw [h3] at h1
            exact ⟨a, c, h1, h2⟩
          have hl9 := Rg.hid kD9.out.ld
          go_upto_region 25 with (first | (with_reducible refine Rg.wpList_load_row rfl (.tmp 7) 28 rfl rfl hl9.out ?_) | (with_reducible refine Rg.wpList_load_row rfl (.tmp 7) 28 rfl rfl hlA.out ?_) | (go_at_call 22; refine (HJ.out _ hb9.out kD9.out.dt).mono ?_; rintro e wA ⟨ja, jc, rfl, bA⟩; have hlA := Rg.hid (kD9.out.below bA).ld) | (go_at_call 24; refine (HE.out _ (Rg.chain hb9.out bA) (kD9.out.below bA).dt).mono ?_; rintro e wB ⟨ka, kc, rfl, bB⟩))
          have kDB := Rg.hid ((kD9.out.below bA).below bB)
          have hrowB := Rg.hid ((hrow9.out.below bA).below bB)
          have hbB := Rg.hid (Rg.chain (Rg.chain hb9.out bA) bB)
          clear kD9 hrow9 hb9 bA bB hl9 hlA HJ HE hsub
          go_wp2
          go_loopw [137] (fun vi wr => ∃ (q : Nat), q ≤ i ∧ vi = .int .i64 q ∧ Hid (DB X CS2 d2 wr) ∧ Hid (heldE.Row wr (some ⟨rb, ro, none⟩) ws) ∧ Hid (Below w.heap.size w wr)) (fun vi _ => i - (intOf vi).toNat)
          case atStart => exact ⟨0, Nat.zero_le _, rfl, kDB, hrowB, hbB⟩
          case round =>
            obtain ⟨q, hqi, rfl, kD, hrow, hbw⟩ := hrel
            clear kDB hrowB hbB
            by_cases hlt : q < i
            · have hql : q < ws.length := by rw [← hM.out]; exact hlt
              obtain ⟨rb', ro', hee, hat⟩ := held_cell hrow.out hql
              obtain ⟨rfl, rfl⟩ : rb' = rb ∧ ro' = ro := by injection hee with hee; injection hee with h1 h2; exact ⟨h1.symm, h2.symm⟩
              have hld := hL.out.load hil hql
              have hsz := hZ.out _ (List.getElem_mem hql)
              generalize ws[q] = h at *
              obtain ⟨gs, ⟨gg, gn, gk, gu, gf, gt, gc0, gz⟩, gx⟩ := h
              obtain ⟨c0, c1, c2, c3, c4, c5, c6, c7, c8, c9⟩ := held_at hat
              dsimp only at c0 c1 c2 c3 c4 c5 c6 c7 c8 c9 hld hsz
              have iz0 : (0 : Int) ≤ (q : Int) := by omega
              have iz1 : (q : Int) < (i : Int) := by omega
              have bH := Rg.al1 wr (.cells #[.string gs, .int .i64 gg, .int .i64 gn, .int .i64 gk, .string gu, .string gf, .string gt, .string gc0, .int .i64 gz, .string gx] 42)
              have kH : Hid (Rg.Bk wr.heap.size [.string gs, .int .i64 gg, .int .i64 gn, .int .i64 gk, .string gu, .string gf, .string gt, .string gc0, .int .i64 gz, .string gx] 42 (wr.alloc (.cells #[.string gs, .int .i64 gg, .int .i64 gn, .int .i64 gk, .string gu, .string gf, .string gt, .string gc0, .int .i64 gz, .string gx] 42))) := Rg.Bk.new rfl
              have kD1 := Rg.hid (kD.out.below bH)
              have hrow1 := Rg.hid (hrow.out.below bH)
              have hb1 := Rg.hid (Rg.chain hbw.out bH)
              have hca := fun (W : World) (hW : Below w.heap.size w W) (hv : DAt W (.agg CS2) d2) => load_any _ d2 gs gg gn W hL.out.fit.sm.ok (Fit.mild hL.out.fit hm12.out) hsz hv (hw.out.below hW)
              rw [hld] at hca
              replace hca := Rg.hid hca
              clear hat hld hsz hee
              go_upto_region 28 with fail
              generalize World.alloc _ _ = wa at *
              obtain ⟨Q2, hQ⟩ : ∃ Q, Q = wr.heap.size := ⟨_, rfl⟩
              rw [← hQ] at kH ⊢
              clear hQ c0 c1 c2 c3 c4 c5 c6 c7 c8 c9 hbw bH kD hrow
              have h0 : wa.cell? ⟨Q2, 0, none⟩ = some (.string gs) := kH.out.cell 0
              have h1 : wa.cell? ⟨Q2, 1, none⟩ = some (.int .i64 gg) := kH.out.cell 1
              have h2 : wa.cell? ⟨Q2, 2, none⟩ = some (.int .i64 gn) := kH.out.cell 2
              have hlD := Rg.hid kD1.out.ld
              by_cases hqk : q = k
              · subst hqk
                have HC : Hid (∀ W, Below w.heap.size w W → DAt W (.agg CS2) d2 → Calls Tryz.prog 16 #[.agg CS2, .string gs, .agg #[.int .i64 gg, .int .i64 gn]] W fun e w' => e = .returned (.tuple #[.agg #[.string ⟨#[]⟩, .int .i64 0, .int .i64 0, .int .i64 0, .string ⟨#[]⟩, .string ⟨#[]⟩, .string ⟨#[]⟩, .string ⟨#[]⟩, .int .i64 0, .string ⟨#[]⟩], .int .i64 6]) ∧ Below W.heap.size W w') := by
                  have := hca.out
                  rw [if_pos rfl] at this
                  exact this
                clear hca
                go_upto_region 29 with (first | (with_reducible refine Rg.isld (.tmp 7) 28 ?_; refine Rg.lld (.tmp 7) 28 rfl hlD.out ?_) | (go_at_call 16; refine (HC.out _ hb1.out kD1.out.dt).mono ?_; rintro e wb ⟨rfl, bb⟩))
                have bG := Rg.al1 wb (.cells #[.string ⟨#[]⟩, .int .i64 0, .int .i64 0, .int .i64 0, .string ⟨#[]⟩, .string ⟨#[]⟩, .string ⟨#[]⟩, .string ⟨#[]⟩, .int .i64 0, .string ⟨#[]⟩] 42)
                have kG : Hid (Rg.Bk wb.heap.size [.string ⟨#[]⟩, .int .i64 0, .int .i64 0, .int .i64 0, .string ⟨#[]⟩, .string ⟨#[]⟩, .string ⟨#[]⟩, .string ⟨#[]⟩, .int .i64 0, .string ⟨#[]⟩] 42 (wb.alloc (.cells #[.string ⟨#[]⟩, .int .i64 0, .int .i64 0, .int .i64 0, .string ⟨#[]⟩, .string ⟨#[]⟩, .string ⟨#[]⟩, .string ⟨#[]⟩, .int .i64 0, .string ⟨#[]⟩] 42))) := Rg.Bk.new rfl
                have kD2 := Rg.hid ((kD1.out.below bb).below bG)
                have hrow2 := Rg.hid ((hrow1.out.below bb).below bG)
                have hb2 := Rg.hid (Rg.chain (Rg.chain hb1.out bb) bG)
                have kH2 := Rg.hid ((kH.out.below bb kH.out.lt).below bG (Nat.lt_of_lt_of_le kH.out.lt bb.size))
                generalize World.alloc _ _ = wc at *
                obtain ⟨G, hG⟩ : ∃ G, G = wb.heap.size := ⟨_, rfl⟩
                rw [← hG] at kG ⊢
                clear hG h0 h1 h2 hlD HC kD1 hrow1 hb1 kH bb bG
                go_upto_region 31 with fail
                clear kG kH2
                go_wp2
                go_roundw
                case rel => exact ⟨q + 1, by omega, by go_num, kD2, hrow2, hb2⟩
                case measure => simp [intOf]; omega
              · have eqk : ((q : Int) == (k : Int)) = false := by rw [beq_eq_false_iff_ne]; omega
                have eqn : ((q : Int) != (k : Int)) = true := by rw [bne_iff_ne]; omega
                have HC : Hid (∀ W, Below w.heap.size w W → DAt W (.agg CS2) d2 → Calls Tryz.prog 16 #[.agg CS2, .string gs, .agg #[.int .i64 gg, .int .i64 gn]] W fun e w' => e = .returned (.tuple #[.agg #[.string gs, .int .i64 gg, .int .i64 gn, .int .i64 gk, .string gu, .string gf, .string gt, .string gc0, .int .i64 gz, .string gx], .int .i64 0]) ∧ Below W.heap.size W w') := by
                  have := hca.out
                  rw [if_neg hqk] at this
                  exact this
                clear hca
                go_upto_region 29 with (first | (with_reducible refine Rg.isld (.tmp 7) 28 ?_; refine Rg.lld (.tmp 7) 28 rfl hlD.out ?_) | (go_at_call 16; refine (HC.out _ hb1.out kD1.out.dt).mono ?_; rintro e wb ⟨rfl, bb⟩))
                have bG := Rg.al1 wb (.cells #[.string gs, .int .i64 gg, .int .i64 gn, .int .i64 gk, .string gu, .string gf, .string gt, .string gc0, .int .i64 gz, .string gx] 42)
                have kG : Hid (Rg.Bk wb.heap.size [.string gs, .int .i64 gg, .int .i64 gn, .int .i64 gk, .string gu, .string gf, .string gt, .string gc0, .int .i64 gz, .string gx] 42 (wb.alloc (.cells #[.string gs, .int .i64 gg, .int .i64 gn, .int .i64 gk, .string gu, .string gf, .string gt, .string gc0, .int .i64 gz, .string gx] 42))) := Rg.Bk.new rfl
                have kD2 := Rg.hid ((kD1.out.below bb).below bG)
                have hrow2 := Rg.hid ((hrow1.out.below bb).below bG)
                have hb2 := Rg.hid (Rg.chain (Rg.chain hb1.out bb) bG)
                have kH2 := Rg.hid ((kH.out.below bb kH.out.lt).below bG (Nat.lt_of_lt_of_le kH.out.lt bb.size))
                generalize World.alloc _ _ = wc at *
                obtain ⟨G, hG⟩ : ∃ G, G = wb.heap.size := ⟨_, rfl⟩
                rw [← hG] at kG ⊢
                clear hG h0 h1 h2 hlD HC kD1 hrow1 hb1 kH bb bG
                have hlG : Hid ((loadVar 42 ⟨G, 0, none⟩).run Tryz.prog wc = .ok (.agg #[.string gs, .int .i64 gg, .int .i64 gn, .int .i64 gk, .string gu, .string gf, .string gt, .string gc0, .int .i64 gz, .string gx]) wc) := hld (h := ⟨gs, ⟨gg, gn, gk, gu, gf, gt, gc0, gz⟩, gx⟩) kG.out
                have hlH : Hid ((loadVar 42 ⟨Q2, 0, none⟩).run Tryz.prog wc = .ok (.agg #[.string gs, .int .i64 gg, .int .i64 gn, .int .i64 gk, .string gu, .string gf, .string gt, .string gc0, .int .i64 gz, .string gx]) wc) := hld (h := ⟨gs, ⟨gg, gn, gk, gu, gf, gt, gc0, gz⟩, gx⟩) kH2.out
                have EQ : ∀ W, (binOp .neq 42 (.agg #[.string gs, .int .i64 gg, .int .i64 gn, .int .i64 gk, .string gu, .string gf, .string gt, .string gc0, .int .i64 gz, .string gx]) (.agg #[.string gs, .int .i64 gg, .int .i64 gn, .int .i64 gk, .string gu, .string gf, .string gt, .string gc0, .int .i64 gz, .string gx])).run Tryz.prog W = .ok (.bool false) W := fun W => neq_held_self gs gu gf gt gc0 gx gg gn gk gz W
                go_upto_region 31 with (first | (with_reducible refine Rg.wpList_load_row rfl (.tmp 19) 42 rfl rfl hlG.out ?_) | (with_reducible refine Rg.wpList_load_row rfl (.tmp 18) 42 rfl rfl hlH.out ?_))
                clear EQ hlG hlH kG kH2 eqk eqn
                go_wp2
                go_roundw
                case rel => exact ⟨q + 1, by omega, by go_num, kD2, hrow2, hb2⟩
                case measure => simp [intOf]; omega
            · have hqe : q = i := by omega
              subst hqe
              go_wp2_with (go_at_call 9; refine (HA.out _ hbw.out).mono ?_; rintro e wE ⟨rfl, bE⟩)
              go_ret
              exact ⟨rfl, bE⟩
        case true =>
          obtain ⟨e0, hL⟩ := HFl.out
          have HC : Hid (∀ W, Below w.heap.size w W → DAt W (.agg CS) d → Calls Tryz.prog 14 #[.agg CS, .string hs, .agg #[.int .i64 hg, .int .i64 hn]] W fun e w' => V2Post W ((Spl.fail d hs hg hn).1, 0) e w') := by
            have := hcF.out
            refine Rg.hid fun W hW hv => (this W hW hv).mono fun e w' q => ?_
            rw [← e0]
            exact q
          clear e0 HDn HFl hcD hcF
          generalize (Spl.fail d hs hg hn).1 = d2 at *
          replace hL := Rg.hid hL
          have hm12 : Hid (N * 6300 + 6300 ≤ 1000000) := by show _ ≤ _; omega
          unfold V2Post at HC
          dsimp only at HC
          go_upto_region 23 with (first | (with_reducible refine Rg.isld (.tmp 7) 28 ?_; refine Rg.lld (.tmp 7) 28 rfl hlD.out ?_) | (go_at_call 14; refine (HC.out _ hb7.out kD7.out.dt).mono ?_; rintro e w8 ⟨CS2, rfl, a8, b8⟩; obtain ⟨w9, st9, k9, o9⟩ := (kD7.out.below b8.out).st a8.out) | (with_reducible refine Rg.isst (.tmp 7) (.tmp 104) 28 ?_; refine Rg.lst (.tmp 7) (.tmp 104) 28 rfl rfl st9 ?_))
          have kD9 := Rg.hid k9
          have hrow9 := Rg.hid (held_onlyB (hrow7.out.below b8.out) (kD7.out.below b8.out) o9)
          have hb9 := Rg.hid ((Rg.chain hb7.out b8.out).trans (o9.bel hXw.out))
          clear k9 o9 st9 a8 b8 kD7 hrow7 hb7 hlD HC h0 h1 h2 kH
          have HJ : Hid (∀ W, Below w.heap.size w W → DAt W (.agg CS2) d2 → Calls Tryz.prog 22 #[.agg CS2, .string ⟨#[]⟩] W fun e w' => ∃ a c, e = .returned (.slice a p c) ∧ Below W.heap.size W w') := fun W hW hv => (jobs_any _ d2 ⟨#[]⟩ W hL.out.fit.sm.ok (Fit.mild hL.out.fit hm12.out) hv (hw.out.below hW)).mono fun e w' ⟨a, c, L, h1, h2, h3, h4⟩ => ⟨a, c, by rw [h1, hL.out.jobs hil h2.out, hpM.out], h4.out⟩
          have HE : Hid (∀ W, Below w.heap.size w W → DAt W (.agg CS2) d2 → Calls Tryz.prog 24 #[.agg CS2, .string ⟨#[]⟩] W fun e w' => ∃ a c, e = .returned (.slice a 1 c) ∧ Below W.heap.size W w') := fun W hW hv => (failed_any _ d2 ⟨#[]⟩ W hL.out.fit.sm.ok (Fit.mild hL.out.fit hm12.out) hv (hw.out.below hW)).mono fun e w' q => by
            obtain ⟨a, c, h1, h2⟩ := q.len
            have h3 : ((Dsk.files d2).filterMap (Spl.pick (Dsk.files d2) 69 ⟨#[]⟩)).length = 1 := hL.out.fl
            rw [h3] at h1
            exact ⟨a, c, h1, h2⟩
          have hl9 := Rg.hid kD9.out.ld
          go_upto_region 25 with (first | (with_reducible refine Rg.wpList_load_row rfl (.tmp 7) 28 rfl rfl hl9.out ?_) | (with_reducible refine Rg.wpList_load_row rfl (.tmp 7) 28 rfl rfl hlA.out ?_) | (go_at_call 22; refine (HJ.out _ hb9.out kD9.out.dt).mono ?_; rintro e wA ⟨ja, jc, rfl, bA⟩; have hlA := Rg.hid (kD9.out.below bA).ld) | (go_at_call 24; refine (HE.out _ (Rg.chain hb9.out bA) (kD9.out.below bA).dt).mono ?_; rintro e wB ⟨ka, kc, rfl, bB⟩))
          have kDB := Rg.hid ((kD9.out.below bA).below bB)
          have hrowB := Rg.hid ((hrow9.out.below bA).below bB)
          have hbB := Rg.hid (Rg.chain (Rg.chain hb9.out bA) bB)
          clear kD9 hrow9 hb9 bA bB hl9 hlA HJ HE hsub
          go_wp2
          go_loopw [137] (fun vi wr => ∃ (q : Nat), q ≤ i ∧ vi = .int .i64 q ∧ Hid (DB X CS2 d2 wr) ∧ Hid (heldE.Row wr (some ⟨rb, ro, none⟩) ws) ∧ Hid (Below w.heap.size w wr)) (fun vi _ => i - (intOf vi).toNat)
          case atStart => exact ⟨0, Nat.zero_le _, rfl, kDB, hrowB, hbB⟩
          case round =>
            obtain ⟨q, hqi, rfl, kD, hrow, hbw⟩ := hrel
            clear kDB hrowB hbB
            by_cases hlt : q < i
            · have hql : q < ws.length := by rw [← hM.out]; exact hlt
              obtain ⟨rb', ro', hee, hat⟩ := held_cell hrow.out hql
              obtain ⟨rfl, rfl⟩ : rb' = rb ∧ ro' = ro := by injection hee with hee; injection hee with h1 h2; exact ⟨h1.symm, h2.symm⟩
              have hld := hL.out.load hil hql
              have hsz := hZ.out _ (List.getElem_mem hql)
              generalize ws[q] = h at *
              obtain ⟨gs, ⟨gg, gn, gk, gu, gf, gt, gc0, gz⟩, gx⟩ := h
              obtain ⟨c0, c1, c2, c3, c4, c5, c6, c7, c8, c9⟩ := held_at hat
              dsimp only at c0 c1 c2 c3 c4 c5 c6 c7 c8 c9 hld hsz
              have iz0 : (0 : Int) ≤ (q : Int) := by omega
              have iz1 : (q : Int) < (i : Int) := by omega
              have bH := Rg.al1 wr (.cells #[.string gs, .int .i64 gg, .int .i64 gn, .int .i64 gk, .string gu, .string gf, .string gt, .string gc0, .int .i64 gz, .string gx] 42)
              have kH : Hid (Rg.Bk wr.heap.size [.string gs, .int .i64 gg, .int .i64 gn, .int .i64 gk, .string gu, .string gf, .string gt, .string gc0, .int .i64 gz, .string gx] 42 (wr.alloc (.cells #[.string gs, .int .i64 gg, .int .i64 gn, .int .i64 gk, .string gu, .string gf, .string gt, .string gc0, .int .i64 gz, .string gx] 42))) := Rg.Bk.new rfl
              have kD1 := Rg.hid (kD.out.below bH)
              have hrow1 := Rg.hid (hrow.out.below bH)
              have hb1 := Rg.hid (Rg.chain hbw.out bH)
              have hca := fun (W : World) (hW : Below w.heap.size w W) (hv : DAt W (.agg CS2) d2) => load_any _ d2 gs gg gn W hL.out.fit.sm.ok (Fit.mild hL.out.fit hm12.out) hsz hv (hw.out.below hW)
              rw [hld] at hca
              replace hca := Rg.hid hca
              clear hat hld hsz hee
              go_upto_region 28 with fail
              generalize World.alloc _ _ = wa at *
              obtain ⟨Q2, hQ⟩ : ∃ Q, Q = wr.heap.size := ⟨_, rfl⟩
              rw [← hQ] at kH ⊢
              clear hQ c0 c1 c2 c3 c4 c5 c6 c7 c8 c9 hbw bH kD hrow
              have h0 : wa.cell? ⟨Q2, 0, none⟩ = some (.string gs) := kH.out.cell 0
              have h1 : wa.cell? ⟨Q2, 1, none⟩ = some (.int .i64 gg) := kH.out.cell 1
              have h2 : wa.cell? ⟨Q2, 2, none⟩ = some (.int .i64 gn) := kH.out.cell 2
              have hlD := Rg.hid kD1.out.ld
              by_cases hqk : q = k
              · subst hqk
                have HC : Hid (∀ W, Below w.heap.size w W → DAt W (.agg CS2) d2 → Calls Tryz.prog 16 #[.agg CS2, .string gs, .agg #[.int .i64 gg, .int .i64 gn]] W fun e w' => e = .returned (.tuple #[.agg #[.string ⟨#[]⟩, .int .i64 0, .int .i64 0, .int .i64 0, .string ⟨#[]⟩, .string ⟨#[]⟩, .string ⟨#[]⟩, .string ⟨#[]⟩, .int .i64 0, .string ⟨#[]⟩], .int .i64 6]) ∧ Below W.heap.size W w') := by
                  have := hca.out
                  rw [if_pos rfl] at this
                  exact this
                clear hca
                go_upto_region 29 with (first | (with_reducible refine Rg.isld (.tmp 7) 28 ?_; refine Rg.lld (.tmp 7) 28 rfl hlD.out ?_) | (go_at_call 16; refine (HC.out _ hb1.out kD1.out.dt).mono ?_; rintro e wb ⟨rfl, bb⟩))
                have bG := Rg.al1 wb (.cells #[.string ⟨#[]⟩, .int .i64 0, .int .i64 0, .int .i64 0, .string ⟨#[]⟩, .string ⟨#[]⟩, .string ⟨#[]⟩, .string ⟨#[]⟩, .int .i64 0, .string ⟨#[]⟩] 42)
                have kG : Hid (Rg.Bk wb.heap.size [.string ⟨#[]⟩, .int .i64 0, .int .i64 0, .int .i64 0, .string ⟨#[]⟩, .string ⟨#[]⟩, .string ⟨#[]⟩, .string ⟨#[]⟩, .int .i64 0, .string ⟨#[]⟩] 42 (wb.alloc (.cells #[.string ⟨#[]⟩, .int .i64 0, .int .i64 0, .int .i64 0, .string ⟨#[]⟩, .string ⟨#[]⟩, .string ⟨#[]⟩, .string ⟨#[]⟩, .int .i64 0, .string ⟨#[]⟩] 42))) := Rg.Bk.new rfl
                have kD2 := Rg.hid ((kD1.out.below bb).below bG)
                have hrow2 := Rg.hid ((hrow1.out.below bb).below bG)
                have hb2 := Rg.hid (Rg.chain (Rg.chain hb1.out bb) bG)
                have kH2 := Rg.hid ((kH.out.below bb kH.out.lt).below bG (Nat.lt_of_lt_of_le kH.out.lt bb.size))
                generalize World.alloc _ _ = wc at *
                obtain ⟨G, hG⟩ : ∃ G, G = wb.heap.size := ⟨_, rfl⟩
                rw [← hG] at kG ⊢
                clear hG h0 h1 h2 hlD HC kD1 hrow1 hb1 kH bb bG
                go_upto_region 31 with fail
                clear kG kH2
                go_wp2
                go_roundw
                case rel => exact ⟨q + 1, by omega, by go_num, kD2, hrow2, hb2⟩
                case measure => simp [intOf]; omega
              · have eqk : ((q : Int) == (k : Int)) = false := by rw [beq_eq_false_iff_ne]; omega
                have eqn : ((q : Int) != (k : Int)) = true := by rw [bne_iff_ne]; omega
                have HC : Hid (∀ W, Below w.heap.size w W → DAt W (.agg CS2) d2 → Calls Tryz.prog 16 #[.agg CS2, .string gs, .agg #[.int .i64 gg, .int .i64 gn]] W fun e w' => e = .returned (.tuple #[.agg #[.string gs, .int .i64 gg, .int .i64 gn, .int .i64 gk, .string gu, .string gf, .string gt, .string gc0, .int .i64 gz, .string gx], .int .i64 0]) ∧ Below W.heap.size W w') := by
                  have := hca.out
                  rw [if_neg hqk] at this
                  exact this
                clear hca
                go_upto_region 29 with (first | (with_reducible refine Rg.isld (.tmp 7) 28 ?_; refine Rg.lld (.tmp 7) 28 rfl hlD.out ?_) | (go_at_call 16; refine (HC.out _ hb1.out kD1.out.dt).mono ?_; rintro e wb ⟨rfl, bb⟩))
                have bG := Rg.al1 wb (.cells #[.string gs, .int .i64 gg, .int .i64 gn, .int .i64 gk, .string gu, .string gf, .string gt, .string gc0, .int .i64 gz, .string gx] 42)
                have kG : Hid (Rg.Bk wb.heap.size [.string gs, .int .i64 gg, .int .i64 gn, .int .i64 gk, .string gu, .string gf, .string gt, .string gc0, .int .i64 gz, .string gx] 42 (wb.alloc (.cells #[.string gs, .int .i64 gg, .int .i64 gn, .int .i64 gk, .string gu, .string gf, .string gt, .string gc0, .int .i64 gz, .string gx] 42))) := Rg.Bk.new rfl
                have kD2 := Rg.hid ((kD1.out.below bb).below bG)
                have hrow2 := Rg.hid ((hrow1.out.below bb).below bG)
                have hb2 := Rg.hid (Rg.chain (Rg.chain hb1.out bb) bG)
                have kH2 := Rg.hid ((kH.out.below bb kH.out.lt).below bG (Nat.lt_of_lt_of_le kH.out.lt bb.size))
                generalize World.alloc _ _ = wc at *
                obtain ⟨G, hG⟩ : ∃ G, G = wb.heap.size := ⟨_, rfl⟩
                rw [← hG] at kG ⊢
                clear hG h0 h1 h2 hlD HC kD1 hrow1 hb1 kH bb bG
                have hlG : Hid ((loadVar 42 ⟨G, 0, none⟩).run Tryz.prog wc = .ok (.agg #[.string gs, .int .i64 gg, .int .i64 gn, .int .i64 gk, .string gu, .string gf, .string gt, .string gc0, .int .i64 gz, .string gx]) wc) := hld (h := ⟨gs, ⟨gg, gn, gk, gu, gf, gt, gc0, gz⟩, gx⟩) kG.out
                have hlH : Hid ((loadVar 42 ⟨Q2, 0, none⟩).run Tryz.prog wc = .ok (.agg #[.string gs, .int .i64 gg, .int .i64 gn, .int .i64 gk, .string gu, .string gf, .string gt, .string gc0, .int .i64 gz, .string gx]) wc) := hld (h := ⟨gs, ⟨gg, gn, gk, gu, gf, gt, gc0, gz⟩, gx⟩) kH2.out
                have EQ : ∀ W, (binOp .neq 42 (.agg #[.string gs, .int .i64 gg, .int .i64 gn, .int .i64 gk, .string gu, .string gf, .string gt, .string gc0, .int .i64 gz, .string gx]) (.agg #[.string gs, .int .i64 gg, .int .i64 gn, .int .i64 gk, .string gu, .string gf, .string gt, .string gc0, .int .i64 gz, .string gx])).run Tryz.prog W = .ok (.bool false) W := fun W => neq_held_self gs gu gf gt gc0 gx gg gn gk gz W
                go_upto_region 31 with (first | (with_reducible refine Rg.wpList_load_row rfl (.tmp 19) 42 rfl rfl hlG.out ?_) | (with_reducible refine Rg.wpList_load_row rfl (.tmp 18) 42 rfl rfl hlH.out ?_))
                clear EQ hlG hlH kG kH2 eqk eqn
                go_wp2
                go_roundw
                case rel => exact ⟨q + 1, by omega, by go_num, kD2, hrow2, hb2⟩
                case measure => simp [intOf]; omega
            · have hqe : q = i := by omega
              subst hqe
              go_wp2_with (go_at_call 9; refine (HA.out _ hbw.out).mono ?_; rintro e wE ⟨rfl, bE⟩)
              go_ret
              exact ⟨rfl, bE⟩
end Go.Proofs.YtgboghbicbnhiaaGreatDoor
