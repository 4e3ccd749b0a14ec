/-
  Layer 18: SpoolOrder's walk. What the rows of this seat list of package variables; the world for the witness; the table of powers of ten; bytealg.MaxLen holds some number. Arguments of the statements of layer 18: a call by value, a slice of calls: what the row says of them, in the walk's words.
-/
import Derived.Test.YtgboghbicbnhiaaGreatDoorSoBI
import Derived.Test.YtgboghbicbnhiaaGreatDoorSoBJ
import Derived.Deep.DeepCutAuto
import Derived.Test.YtgboghbicbnhiaaGreatDoorSoAJ
import Derived.Test.YtgboghbicbnhiaaGreatDoorCards
import Derived.Test.YtgboghbicbnhiaaGreatDoorTie
import Derived.ProofKit
import Derived.OpenShut
import Derived.Deep.DeepHandedRow
import Derived.Lay
import Derived.MakeChecks
import Derived.Shelf.Vars
import Derived.Lib.LaidTab
import Derived.Test.YtgboghbicbnhiaaGreatDoorSoAG
import Derived.Lib.SmallJoins
import Derived.Carry
import Derived.Deep.Slices
import Derived.SizedLaws
namespace Go.Proofs.YtgboghbicbnhiaaGreatDoor
open Go.RowKit
theorem held_cellO {W : World} {A : Option Addr} {ws : List Spl.Hd} (h : heldE.Row W A ws) {i : Nat} (hi : i < ws.length) : ∃ b o, A = some ⟨b, o, none⟩ ∧ b < W.heap.size ∧ Rg.At W b o (heldE.flat ws) := by
  rcases h with ⟨_, rfl⟩ | h
  · simp at hi
  · exact h
set_option maxHeartbeats 2000000 in
set_option maxRecDepth 100000 in
theorem order_walk (a : Option Addr) (ca : Nat) (l : List Spl.SOp) (hn : l.length ≤ maxLen) (hfit : ∀ c ∈ l, SFits c) (sys : ByteArray) (hys : sys.size ≤ maxLen) (w : World) (hrow : SRow0 w a l) (hw : Ok w) :
    Calls Tryz.prog 7 #[.slice a l.length ca, .string sys] w fun e w' => e = .returned (.bool true) ∧ Below w.heap.size w w' := by
  have HFr : Hid (Calls Tryz.prog 8 #[.slice a l.length ca] w fun e w' => FarPost l.length w e w') := far_any a ca l w hn hfit hrow
  have HA : Hid (∀ W, Below w.heap.size w W → Calls Tryz.prog 9 #[] W fun e w' => e = .returned (.bool true) ∧ Below w.heap.size w w') := fun W hW => (sawake_any W (hw.below hW)).mono fun e w' ⟨h1, h2⟩ => ⟨h1, Rg.chain hW h2⟩
  have HU : Hid (l.length ≤ 60 → ∀ W, Below w.heap.size w W → Calls Tryz.prog 26 #[.slice a l.length ca] W fun e w' => FullPost l.length W e w') := fun hl W hW => full_any a ca l hl hfit W (hrow.below hW) (hw.below hW)
  obtain ⟨N, hN⟩ : ∃ N, N = l.length := ⟨_, rfl⟩
  rw [← hN] at HFr HU ⊢
  replace hw := Rg.hid hw
  replace hys := Rg.hid hys
  clear hn hrow hfit hN
  by_cases hbig : 1000 < sys.size
  · have q1 : decide ((1000 : Int) < (sys.size : Int)) = true := by rw [decide_eq_true_eq]; omega
    go_enter Tryz.func7, Tryz.ntmps7
    go_upto_region 1 with fail
    go_wp2_with (go_at_call 8; refine HFr.out.mono ?_)
    intro e w1 h1
    obtain ⟨B, rfl, hB, b1⟩ := h1
    clear hB
    cases B
    · go_wp2_with (go_at_call 9; refine (HA.out _ b1.out).mono ?_; rintro e w2 ⟨rfl, b2⟩)
      go_ret
      exact ⟨rfl, b2⟩
    · go_wp2_with (go_at_call 9; refine (HA.out _ b1.out).mono ?_; rintro e w2 ⟨rfl, b2⟩)
      go_ret
      exact ⟨rfl, b2⟩
  have q1 : decide ((1000 : Int) < (sys.size : Int)) = false := by rw [decide_eq_false_iff_not]; omega
  go_enter Tryz.func7, Tryz.ntmps7
  go_upto_region 1 with fail
  go_wp2_with (go_at_call 8; refine HFr.out.mono ?_)
  intro e w1 h1
  obtain ⟨B, rfl, hB, b1⟩ := h1
  cases B
  case true =>
    go_wp2_with (go_at_call 9; refine (HA.out _ b1.out).mono ?_; rintro e w2 ⟨rfl, b2⟩)
    go_ret
    exact ⟨rfl, b2⟩
  case false =>
    have hlen : N ≤ 60 := hB.out rfl
    replace HU := Rg.hid (HU.out hlen)
    clear hB HFr
    unfold FullPost at HU
    go_upto_region 4 with (first | (go_at_call 26; refine (HU.out _ b1.out).mono ?_; rintro e w2 ⟨CS, A, cap, d, ws, rfl, a2, r2, b2, hI, hwn⟩; obtain ⟨w4, st4, k4, o4⟩ := (show DB w2.heap.size zcD zdk (w2.alloc (.cells #[.slice none 0 0, .slice none 0 0, .int .i64 0, .int .i64 0, .bool false] 28)) from ⟨Rg.Bk.new rfl, zdk_at _⟩).st (a2.out.below (Rg.al1 w2 (.cells #[.slice none 0 0, .slice none 0 0, .int .i64 0, .int .i64 0, .bool false] 28)))) | (with_reducible refine Rg.isst (.tmp 5) (.tmp 25) 28 ?_; refine Rg.lst (.tmp 5) (.tmp 25) 28 rfl rfl st4 ?_))
    have hm6 : Hid (N * 6300 ≤ 1000000) := by show _ ≤ _; omega
    have hb4 := Rg.hid (Rg.chain (Rg.chain b1.out b2.out) ((Rg.al1 w2 (.cells #[.slice none 0 0, .slice none 0 0, .int .i64 0, .int .i64 0, .bool false] 28)).trans (o4.bel (Nat.le_refl _))))
    have kX := Rg.hid k4
    obtain ⟨X, hX⟩ : ∃ X, X = w2.heap.size := ⟨_, rfl⟩
    rw [← hX] at kX ⊢
    clear hX st4 k4 o4 a2 r2 b2 b1 HU q1 hbig
    have HJ : Hid (∀ s W, Below w.heap.size w W → DAt W (.agg CS) d → Calls Tryz.prog 22 #[.agg CS, .string s] W fun e w' => GthPost (Dsk.files d) 67 s W e w') := fun s W hW hv => jobs_any _ d s W hI.out.fit.sm.ok (Fit.mild hI.out.fit hm6.out) hv (hw.out.below hW)
    unfold GthPost at HJ
    have hlD := Rg.hid kX.out.ld
    go_upto_region 5 with (first | (with_reducible refine Rg.isld (.tmp 5) 28 ?_; refine Rg.lld (.tmp 5) 28 rfl hlD.out ?_) | (go_at_call 22; refine (HJ.out _ _ hb4.out kX.out.dt).mono ?_; rintro e w6 ⟨ja, jc, L, rfl, hR, hrL, b6⟩))
    have kD6 := Rg.hid (kX.out.below b6.out)
    have hb6 := Rg.hid (Rg.chain hb4.out b6.out)
    have hwL := hI.out.jobs hR.out
    rw [hwL]
    have hLn : L.length ≤ 60 := by have := hwn.out; omega
    obtain ⟨M, hM⟩ : ∃ M, M = L.length := ⟨_, rfl⟩
    rw [← hM] at hLn ⊢
    replace hM := Rg.hid hM
    clear hwL hlD b6 hb4 kX hwn
    go_wp2
    go_loopw [8] (fun vi wr => ∃ (q : Nat), vi = .int .i64 ((q : Int) + 1) ∧ (q = 0 ∨ q + 1 ≤ M) ∧ Hid (Below w6.heap.size w6 wr)) (fun vi _ => M - (intOf vi).toNat)
    case atStart => exact ⟨0, rfl, .inl rfl, Rg.hid (Below.refl _ _)⟩
    case round =>
      obtain ⟨q, rfl, hq, hbw⟩ := hrel
      by_cases hlt : q + 1 < M
      · have hql : q + 1 < L.length := by rw [← hM.out]; exact hlt
        obtain ⟨rb, ro, rfl, hrb, hat⟩ := held_cellO hrL.out hql
        have at1 : Rg.At wr rb (ro + q * 10) (heldE.enc L[q]) := (hat.elem (by omega)).below hbw.out hrb
        have at2 : Rg.At wr rb (ro + (q + 1) * 10) (heldE.enc L[q + 1]) := (hat.elem hql).below hbw.out hrb
        obtain ⟨i1, i2⟩ := hI.out.ids hR.out hql
        generalize L[q] = x at *
        generalize L[q + 1] = y at *
        obtain ⟨_, x1, x2, _, _, _, _, _, _, _⟩ := held_at at1
        obtain ⟨_, y1, y2, _, _, _, _, _, _, _⟩ := held_at at2
        generalize x.j.g = xg at *
        generalize x.j.n = xn at *
        generalize y.j.g = yg at *
        generalize y.j.n = yn at *
        have hz0 : (0 : Int) ≤ (q : Int) := by omega
        have hz1 : (q : Int) + 1 < (M : Int) := by omega
        have hrl : rb < wr.heap.size := Nat.lt_of_lt_of_le hrb hbw.out.size
        have hrl1 : rb ≠ wr.heap.size := Nat.ne_of_lt hrl
        have hrl2 : rb ≠ wr.heap.size + 1 := by omega
        clear at1 at2 hat hrb
        go_upto_region 8 with fail
        go_cut [9, 10] (fun s9 s10 wx => ∃ P R, s9 = .pointer (some ⟨P, 0, none⟩) ∧ s10 = .pointer (some ⟨R, 0, none⟩) ∧ wx.cell? ⟨P, 0, none⟩ = some (.int .i64 xg) ∧ wx.cell? ⟨P, 1, none⟩ = some (.int .i64 xn) ∧ wx.cell? ⟨R, 0, none⟩ = some (.int .i64 yg) ∧ wx.cell? ⟨R, 1, none⟩ = some (.int .i64 yn) ∧ Below w6.heap.size w6 wx)
        case first =>
          go_region
          · go_wp2_with fail
            go_meet
            exact ⟨_, _, rfl, rfl, by simp, by simp, by simp, by simp, (Rg.chain hbw.out (Rg.al2 wr _ _)).drew⟩
          · go_wp2_with fail
            go_meet
            exact ⟨_, _, rfl, rfl, by simp, by simp, by simp, by simp, (Rg.chain hbw.out (Rg.al2 wr _ _)).drew⟩
        obtain ⟨P, R, rfl, rfl, p0, p1, r0, r1, hbx⟩ := hcut
        replace hbx := Rg.hid hbx
        clear x1 x2 y1 y2 hrl hrl1 hrl2 hbw
        by_cases hgg : xg = yg
        · subst hgg
          have e2 := i2 rfl
          clear i2
          go_upto_region 7 with fail
          clear p0 p1 r0 r1 i1 e2
          go_wp2
          go_roundw
          case rel => exact ⟨q + 1, by go_num, .inr (by omega), hbx⟩
          case measure => simp [intOf]; omega
        · have e2 : (xg == yg) = false := by rw [beq_eq_false_iff_ne]; exact hgg
          clear i2
          go_upto_region 7 with fail
          clear p0 p1 r0 r1 i1 e2
          go_wp2
          go_roundw
          case rel => exact ⟨q + 1, by go_num, .inr (by omega), hbx⟩
          case measure => simp [intOf]; omega
      · have hz2 : ¬ (q : Int) + 1 < (M : Int) := by omega
        go_upto_region 12 with fail
        have hb7 := Rg.hid (Rg.chain hb6.out hbw.out)
        have kD7 := Rg.hid (kD6.out.below hbw.out)
        have hrL7 := Rg.hid (hrL.out.below hbw.out)
        clear hb6 kD6 hrL hbw hq hz2
        obtain ⟨w7, rfl⟩ : ∃ w7, w7 = wr := ⟨_, rfl⟩
        go_wp2
        go_loopw [11, 69] (fun v11 vi wr => ∃ (i : Nat) (A2 : Option Addr) (cap2 : Nat), i ≤ M ∧ vi = .int .i64 i ∧ v11 = .slice A2 ((L.take i).filter (fun a => decide (a.s = sys))).length cap2 ∧ Hid (HO w7.heap.size wr A2 cap2 ((L.take i).filter (fun a => decide (a.s = sys)))) ∧ Hid (Below w7.heap.size w7 wr)) (fun _ vi _ => M - (intOf vi).toNat)
        case atStart => exact ⟨0, none, 0, Nat.zero_le _, rfl, rfl, .inl ⟨rfl, rfl, rfl⟩, Rg.hid (Below.refl _ _)⟩
        case round =>
          obtain ⟨i, A2, cap2, hin, rfl, rfl, hHO, hbw⟩ := hrel
          by_cases hlt : i < M
          · have hil : i < L.length := by rw [← hM.out]; exact hlt
            obtain ⟨rb, ro, rfl, hrb, hat⟩ := held_cellO hrL7.out hil
            have at1 : Rg.At wr rb (ro + i * 10) (heldE.enc L[i]) := (hat.elem hil).below hbw.out hrb
            have hfs := Spl.filt_succ (sys := sys) hil
            have hPl : Hid (((L.take i).filter (fun a => decide (a.s = sys))).length ≤ 1000000) := by
              show _ ≤ _
              have h1 := List.length_filter_le (fun a : Spl.Hd => decide (a.s = sys)) (L.take i)
              rw [List.length_take] at h1
              omega
            replace hfs := Rg.hid hfs
            generalize (L.take i).filter (fun a => decide (a.s = sys)) = P at *
            generalize L[i] = h at *
            obtain ⟨hs, ⟨hg, hn, hk, hu, hf, ht, hc0, hz⟩, hx⟩ := h
            obtain ⟨c0, c1, c2, c3, c4, c5, c6, c7, c8, c9⟩ := held_at at1
            dsimp only at c0 c1 c2 c3 c4 c5 c6 c7 c8 c9 hfs
            have iz0 : (0 : Int) ≤ (i : Int) := by omega
            have iz1 : (i : Int) < (M : Int) := by omega
            have bH := Rg.al1 wr (.cells #[.string hs, .int .i64 hg, .int .i64 hn, .int .i64 hk, .string hu, .string hf, .string ht, .string hc0, .int .i64 hz, .string hx] 42)
            have kH : Hid (Rg.Bk wr.heap.size [.string hs, .int .i64 hg, .int .i64 hn, .int .i64 hk, .string hu, .string hf, .string ht, .string hc0, .int .i64 hz, .string hx] 42 (wr.alloc (.cells #[.string hs, .int .i64 hg, .int .i64 hn, .int .i64 hk, .string hu, .string hf, .string ht, .string hc0, .int .i64 hz, .string hx] 42))) := Rg.Bk.new rfl
            have hHO1 := Rg.hid (hHO.out.below bH)
            have hb1 := Rg.hid (Rg.chain hbw.out bH)
            clear at1 hat hrb
            go_upto_region 15 with fail
            generalize World.alloc _ _ = wa at *
            obtain ⟨Q, hQ⟩ : ∃ Q, Q = wr.heap.size := ⟨_, rfl⟩
            rw [← hQ] at kH ⊢
            clear hQ c0 c1 c2 c3 c4 c5 c6 c7 c8 c9 hbw bH hHO
            have h0 : wa.cell? ⟨Q, 0, none⟩ = some (.string hs) := kH.out.cell 0
            by_cases hss : hs = sys
            · subst hss
              have hPN : Hid ((L.take (i + 1)).filter (fun a => decide (a.s = hs)) = P ++ [⟨hs, ⟨hg, hn, hk, hu, hf, ht, hc0, hz⟩, hx⟩]) := by show _ = _; rw [hfs.out, if_pos rfl]
              go_upto_region 16 with fail
              clear h0
              have hlH : Hid ((loadVar 42 ⟨Q, 0, none⟩).run Tryz.prog wa = .ok (.agg #[.string hs, .int .i64 hg, .int .i64 hn, .int .i64 hk, .string hu, .string hf, .string ht, .string hc0, .int .i64 hz, .string hx]) wa) := hld (h := ⟨hs, ⟨hg, hn, hk, hu, hf, ht, hc0, hz⟩, hx⟩) kH.out
              have bE := Rg.al1 wa (.cells #[.string hs, .int .i64 hg, .int .i64 hn, .int .i64 hk, .string hu, .string hf, .string ht, .string hc0, .int .i64 hz, .string hx] 42)
              have hxa : Rg.At (wa.alloc (.cells #[.string hs, .int .i64 hg, .int .i64 hn, .int .i64 hk, .string hu, .string hf, .string ht, .string hc0, .int .i64 hz, .string hx] 42)) wa.heap.size 0 (heldE.enc ⟨hs, ⟨hg, hn, hk, hu, hf, ht, hc0, hz⟩, hx⟩) := by
                have kb : Rg.Bk wa.heap.size [.string hs, .int .i64 hg, .int .i64 hn, .int .i64 hk, .string hu, .string hf, .string ht, .string hc0, .int .i64 hz, .string hx] 42 (wa.alloc (.cells #[.string hs, .int .i64 hg, .int .i64 hn, .int .i64 hk, .string hu, .string hf, .string ht, .string hc0, .int .i64 hz, .string hx] 42)) := Rg.Bk.new rfl
                intro t u ht
                rw [Nat.zero_add, kb.cell, ← ht]
                rfl
              obtain ⟨W', A', cap', hap, hHO4, hb4⟩ := (hHO1.out.below bE).append ⟨hs, ⟨hg, hn, hk, hu, hf, ht, hc0, hz⟩, hx⟩ wa.heap.size hxa (Nat.le_trans hb1.out.size bE.size) hPl.out
              replace hap := Rg.hid hap
              replace hHO4 := Rg.hid hHO4
              have hbw4 := Rg.hid (Below.trans (Rg.chain hb1.out bE) hb4)
              have hln : Hid (P.length + 1 = (P ++ [(⟨hs, ⟨hg, hn, hk, hu, hf, ht, hc0, hz⟩, hx⟩ : Spl.Hd)]).length) := by show _ = _; simp
              clear hxa hb4 bE hHO1 hb1 kH
              go_upto_region 17 with (first | (with_reducible refine Rg.isld (.tmp 13) 42 ?_; refine Rg.lld (.tmp 13) 42 rfl hlH.out ?_) | (at_builtin; refine Rg.wpList_append_run rfl (.tmp 77) (.tmp 79) 49 rfl _ _ rfl rfl _ _ hap.out ?_))
              clear hap hlH
              go_wp2
              go_roundw
              case rel => exact ⟨i + 1, A', cap', by omega, by go_num, by rw [hPN.out, hln.out], by rw [hPN.out]; exact hHO4, hbw4⟩
              case measure => simp [intOf]; omega
            · have E1 : (hs.toList == sys.toList) = false := by rw [beq_eq_false_iff_ne]; exact fun c => hss ((tl_inj _ _).1 c)
              have hPN : Hid ((L.take (i + 1)).filter (fun a => decide (a.s = sys)) = P) := by show _ = _; rw [hfs.out, if_neg hss, List.append_nil]
              go_upto_region 17 with fail
              clear E1 h0 kH
              go_wp2
              go_roundw
              case rel => exact ⟨i + 1, A2, cap2, by omega, by go_num, by rw [hPN.out], by rw [hPN.out]; exact hHO1, hb1⟩
              case measure => simp [intOf]; omega
          · have hiM : i = M := by omega
            subst hiM
            have htk : L.take i = L := List.take_of_length_le (by rw [← hM.out]; exact Nat.le_refl _)
            rw [htk] at hHO ⊢
            clear htk
            have hb8 := Rg.hid (Rg.chain hb7.out hbw.out)
            have kD8 := Rg.hid (kD7.out.below hbw.out)
            clear hb7 kD7 hrL7 hbw
            by_cases hse : sys = ⟨#[]⟩
            · subst hse
              clear hHO
              generalize (L.filter (fun a => decide (a.s = ⟨#[]⟩))).length = P at *
              go_wp2_with (go_at_call 9; refine (HA.out _ hb8.out).mono ?_; rintro e w9 ⟨rfl, b9⟩)
              go_ret
              exact ⟨rfl, b9⟩
            · have E1 : (sys.toList == []) = false := by rw [beq_eq_false_iff_ne]; exact fun c => hse (ba_nil c)
              have hfil : Hid (∀ L2, Spl.Row ((Dsk.files d).filterMap (Spl.pick (Dsk.files d) 67 sys)) L2 → L2 = L.filter (fun a => decide (a.s = sys))) := fun L2 q => (hI.out.some hse hR.out q).symm
              have hPl : Hid ((L.filter (fun a => decide (a.s = sys))).length ≤ 1000000) := by
                show _ ≤ _
                have h1 := List.length_filter_le (fun a : Spl.Hd => decide (a.s = sys)) L
                have h2 := hM.out
                omega
              generalize L.filter (fun a => decide (a.s = sys)) = P at *
              have HS : Hid (∀ W b c, heldE.Row W A2 P → heldE.Row W b P → Calls Tryz.prog 21 #[.slice A2 P.length cap2, .slice b P.length c] W fun e w' => e = .returned (.bool true) ∧ Below W.heap.size W w') := fun W b c h1 h2 => same_yes A2 cap2 b c P W hPl.out h1 h2
              have hlD := Rg.hid kD8.out.ld
              go_wp2_with (first | (with_reducible refine Rg.wpList_load_row rfl (.tmp 5) 28 rfl rfl hlD.out ?_) | (go_at_call 22; refine (HJ.out _ _ hb8.out kD8.out.dt).mono ?_; rintro e w9 ⟨ka, kc, L2, rfl, hR2, hrL2, b9⟩; obtain rfl := hfil.out L2 hR2.out) | (go_at_call 21; refine (HS.out _ _ _ (hHO.out.below b9.out).row hrL2.out).mono ?_; rintro e wA ⟨rfl, bA⟩) | (go_at_call 9; refine (HA.out _ (Rg.chain (Rg.chain hb8.out b9.out) bA)).mono ?_; rintro e wB ⟨rfl, bB⟩))
              go_ret
              exact ⟨rfl, bB⟩
end Go.Proofs.YtgboghbicbnhiaaGreatDoor

namespace Go.Proofs.YtgboghbicbnhiaaGreatDoor
open Go.ChangeShapes Go.WideShapes Go.ChangeAt Go.RowKit

theorem own : ownKnob Tryz.prog.godebug = none := by kernel_rfl
theorem gTab : Tryz.prog.globalNamed "internal/strconv.uint64pow10" = some 1 := by kernel_rfl
theorem gTabType : (Tryz.prog.globals[1]?).map (·.type) = some 183 := by kernel_rfl
theorem cellsTab : Tryz.prog.cellsOf 183 = 20 := by kernel_rfl
theorem cellsU64 : Tryz.prog.cellsOf 55 = 1 := by kernel_rfl
theorem pow10_data : (Rows.laid_internal_strconv_uint64pow10 : DataW Unit) = Lib.tabData .u64 Lib.pow10Tab := by kernel_rfl

/-- The list of variables that every row of this seat bears. -/
def laidL : List (String × DataW Unit) := [("math/bits.deBruijn32tab", Rows.laid_math_bits_deBruijn32tab), ("math/bits.deBruijn64tab", Rows.laid_math_bits_deBruijn64tab), ("internal/strconv.uint64pow10", Rows.laid_internal_strconv_uint64pow10), ("unicode/utf8.acceptRanges", Rows.laid_unicode_utf8_acceptRanges), ("unicode/utf8.first", Rows.laid_unicode_utf8_first)]

theorem table {W : World} (h : laidMetH Tryz.prog laidL W) : Lib.TabIs Tryz.prog W "internal/strconv.uint64pow10" .u64 Lib.pow10Tab := by
  have h1 := laidMetH.filter (fun x => x.1 == "internal/strconv.uint64pow10") h
  have e : laidL.filter (fun x => x.1 == "internal/strconv.uint64pow10") = [("internal/strconv.uint64pow10", Rows.laid_internal_strconv_uint64pow10)] := by kernel_rfl
  rw [e, pow10_data, MakeChecks.laidMetH_plain _ _ _ (by kernel_rfl)] at h1
  exact Lib.tabIs_of_head (rest := []) gTab gTabType Tryz.underlying183 Tryz.underlying55 cellsU64 cellsTab h1

theorem laid_met (os : Os) (args : Array Value) : laidMet Tryz.prog laidL ((World.laidAll Tryz.prog os laidL).forCall (fun _ _ => 0) ⟨#[], args, []⟩).memory :=
  laidMet_laidAll args (by kernel_rfl) (by kernel_rfl)

theorem maxOk {W : World} (h : W.ShapedOpen Tryz.prog) : MaxIn W :=
  cell_of_shapedOpen_int (t := 3) (zero := #[.int .i64 0]) (k := .i64) h (of_decide_eq_true (by kernel_rfl)) (by kernel_rfl) rfl (by kernel_rfl) (by kernel_rfl) Tryz.underlying3
end Go.Proofs.YtgboghbicbnhiaaGreatDoor

namespace Go.Proofs.YtgboghbicbnhiaaGreatDoor
open Go.ChangeShapes Go.WideShapes Go.ChangeAt Go.RowKit

theorem laidOutP : laidOutB Tryz.prog = true := by kernel_rfl
theorem sopCells : Tryz.prog.cellsOf 35 = 12 := by kernel_rfl
theorem jobCells : Tryz.prog.cellsOf 33 = 8 := by kernel_rfl
theorem idCells : Tryz.prog.cellsOf 31 = 2 := by kernel_rfl
theorem intCells : Tryz.prog.cellsOf 3 = 1 := by kernel_rfl
theorem strCells : Tryz.prog.cellsOf 9 = 1 := by kernel_rfl
theorem list12 {α : Type} {l : List α} (h : l.length = 12) : ∃ a b c d e f g k m n o p, l = [a, b, c, d, e, f, g, k, m, n, o, p] := by
  match l, h with
  | [a, b, c, d, e, f, g, k, m, n, o, p], _ => exact ⟨a, b, c, d, e, f, g, k, m, n, o, p, rfl⟩
theorem list7 {α : Type} {l : List α} (h : l.length = 7) : ∃ a b c d e f g, l = [a, b, c, d, e, f, g] := by
  match l, h with
  | [a, b, c, d, e, f, g], _ => exact ⟨a, b, c, d, e, f, g, rfl⟩
theorem list5 {α : Type} {l : List α} (h : l.length = 5) : ∃ a b c d e, l = [a, b, c, d, e] := by
  match l, h with
  | [a, b, c, d, e], _ => exact ⟨a, b, c, d, e, rfl⟩
theorem list2 {α : Type} {l : List α} (h : l.length = 2) : ∃ a b, l = [a, b] := by
  match l, h with
  | [a, b], _ => exact ⟨a, b, rfl⟩

section
variable {H : Type} {enc : TypeId × Value → H} {w : World} {base : Nat} {spare : Nat → Bool} {held : Bool}
set_option maxRecDepth 100000 in
theorem open_sopc {fuel : Nat} {cs : List Value} {x : DataW H × List MemPlace} (h : DataW.trod enc Tryz.prog w base spare held fuel 35 cs = some x) :
    ∃ c : Spl.SOp, cs = sopE.enc c ∧ x.2 = [] ∧ SFits c := by
  obtain ⟨xs, n, _, rfl, hl, hlen, hf⟩ := DataW.trod_struct Tryz.underlying35 h
  rw [sopCells] at hl
  obtain ⟨c0, c1, c2, c3, c4, c5, c6, c7, c8, c9, c10, c11, rfl⟩ := list12 hl
  obtain ⟨x0, x1, x2, x3, x4, rfl⟩ := list5 (by simpa using hlen)
  have g0 : DataW.trod enc Tryz.prog w base spare held n 3 (([c0, c1, c2, c3, c4, c5, c6, c7, c8, c9, c10, c11].drop 0).take (Tryz.prog.cellsOf 3)) = some x0 := hf 0 _ rfl
  have g1 : DataW.trod enc Tryz.prog w base spare held n 9 (([c0, c1, c2, c3, c4, c5, c6, c7, c8, c9, c10, c11].drop 1).take (Tryz.prog.cellsOf 9)) = some x1 := hf 1 _ rfl
  have g2 : DataW.trod enc Tryz.prog w base spare held n 33 (([c0, c1, c2, c3, c4, c5, c6, c7, c8, c9, c10, c11].drop 2).take (Tryz.prog.cellsOf 33)) = some x2 := hf 2 _ rfl
  have g3 : DataW.trod enc Tryz.prog w base spare held n 9 (([c0, c1, c2, c3, c4, c5, c6, c7, c8, c9, c10, c11].drop 10).take (Tryz.prog.cellsOf 9)) = some x3 := hf 3 _ rfl
  have g4 : DataW.trod enc Tryz.prog w base spare held n 3 (([c0, c1, c2, c3, c4, c5, c6, c7, c8, c9, c10, c11].drop 11).take (Tryz.prog.cellsOf 3)) = some x4 := hf 4 _ rfl
  rw [intCells] at g0 g4
  rw [strCells] at g1 g3
  rw [jobCells] at g2
  simp only [List.drop_zero, List.drop_succ_cons, List.take_succ_cons, List.take_zero] at g0 g1 g2 g3 g4
  obtain ⟨ys, n', _, rfl, hl', hlen', hf'⟩ := DataW.trod_struct Tryz.underlying33 g2
  obtain ⟨y0, y1, y2, y3, y4, y5, y6, rfl⟩ := list7 (by simpa using hlen')
  have k0 : DataW.trod enc Tryz.prog w base spare held n' 31 (([c2, c3, c4, c5, c6, c7, c8, c9].drop 0).take (Tryz.prog.cellsOf 31)) = some y0 := hf' 0 _ rfl
  have k1 : DataW.trod enc Tryz.prog w base spare held n' 3 (([c2, c3, c4, c5, c6, c7, c8, c9].drop 2).take (Tryz.prog.cellsOf 3)) = some y1 := hf' 1 _ rfl
  have k2 : DataW.trod enc Tryz.prog w base spare held n' 9 (([c2, c3, c4, c5, c6, c7, c8, c9].drop 3).take (Tryz.prog.cellsOf 9)) = some y2 := hf' 2 _ rfl
  have k3 : DataW.trod enc Tryz.prog w base spare held n' 9 (([c2, c3, c4, c5, c6, c7, c8, c9].drop 4).take (Tryz.prog.cellsOf 9)) = some y3 := hf' 3 _ rfl
  have k4 : DataW.trod enc Tryz.prog w base spare held n' 9 (([c2, c3, c4, c5, c6, c7, c8, c9].drop 5).take (Tryz.prog.cellsOf 9)) = some y4 := hf' 4 _ rfl
  have k5 : DataW.trod enc Tryz.prog w base spare held n' 9 (([c2, c3, c4, c5, c6, c7, c8, c9].drop 6).take (Tryz.prog.cellsOf 9)) = some y5 := hf' 5 _ rfl
  have k6 : DataW.trod enc Tryz.prog w base spare held n' 3 (([c2, c3, c4, c5, c6, c7, c8, c9].drop 7).take (Tryz.prog.cellsOf 3)) = some y6 := hf' 6 _ rfl
  rw [idCells] at k0
  rw [intCells] at k1 k6
  rw [strCells] at k2 k3 k4 k5
  simp only [List.drop_zero, List.drop_succ_cons, List.take_succ_cons, List.take_zero] at k0 k1 k2 k3 k4 k5 k6
  obtain ⟨zs, n2, _, rfl, hl2, hlen2, hf2⟩ := DataW.trod_struct Tryz.underlying31 k0
  obtain ⟨z0, z1, rfl⟩ := list2 (by simpa using hlen2)
  have j0 : DataW.trod enc Tryz.prog w base spare held n2 3 (([c2, c3].drop 0).take (Tryz.prog.cellsOf 3)) = some z0 := hf2 0 _ rfl
  have j1 : DataW.trod enc Tryz.prog w base spare held n2 3 (([c2, c3].drop 1).take (Tryz.prog.cellsOf 3)) = some z1 := hf2 1 _ rfl
  rw [intCells] at j0 j1
  simp only [List.drop_zero, List.drop_succ_cons, List.take_succ_cons, List.take_zero] at j0 j1
  obtain ⟨a0, e0, p0, _⟩ := DataW.trod_int Tryz.underlying3 g0
  obtain ⟨a1, e1, p1, s1⟩ := DataW.trod_string Tryz.underlying9 g1
  obtain ⟨a2, e2, p2, _⟩ := DataW.trod_int Tryz.underlying3 j0
  obtain ⟨a3, e3, p3, _⟩ := DataW.trod_int Tryz.underlying3 j1
  obtain ⟨a4, e4, p4, _⟩ := DataW.trod_int Tryz.underlying3 k1
  obtain ⟨a5, e5, p5, s5⟩ := DataW.trod_string Tryz.underlying9 k2
  obtain ⟨a6, e6, p6, s6⟩ := DataW.trod_string Tryz.underlying9 k3
  obtain ⟨a7, e7, p7, s7⟩ := DataW.trod_string Tryz.underlying9 k4
  obtain ⟨a8, e8, p8, s8⟩ := DataW.trod_string Tryz.underlying9 k5
  obtain ⟨a9, e9, p9, s9⟩ := DataW.trod_int Tryz.underlying3 k6
  obtain ⟨a10, e10, p10, s10⟩ := DataW.trod_string Tryz.underlying9 g3
  obtain ⟨a11, e11, p11, s11⟩ := DataW.trod_int Tryz.underlying3 g4
  simp only [List.cons.injEq, and_true] at e0 e1 e2 e3 e4 e5 e6 e7 e8 e9 e10 e11
  subst e0 e1 e2 e3 e4 e5 e6 e7 e8 e9 e10 e11 p0 p1 p2 p3 p4 p5 p6 p7 p8 p9 p10 p11
  exact ⟨⟨a0, a1, ⟨a2, a3, a4, a5, a6, a7, a8, a9⟩, a10, a11⟩, rfl, by simp, s1, s5, s6, s7, s8, s10, (bounds_i64 s11).1, (bounds_i64 s11).2, (bounds_i64 s9).1, (bounds_i64 s9).2⟩
end

theorem sat_flat {W : World} {b off : Nat} {l : List Spl.SOp} (h : ∀ (i : Nat) (hi : i < l.length), Rg.At W b (off + i * 12) (sopE.enc l[i])) : Rg.At W b off (sopE.flat l) := by
  intro t u ht
  have hlt : t < l.length * 12 := by
    rw [show l.length * 12 = (sopE.flat l).length from (sopE.flat_length l).symm]
    rcases Nat.lt_or_ge t (sopE.flat l).length with h' | h'
    · exact h'
    · rw [List.getElem?_eq_none h'] at ht; cases ht
  have hi : t / 12 < l.length := by omega
  have e := sopE.flat_get hi (t := t % 12) (Nat.mod_lt _ (by decide)) []
  rw [List.append_nil, show t / 12 * sopE.m + t % 12 = t by show t / 12 * 12 + t % 12 = t; omega, ht] at e
  have := h (t / 12) hi (t % 12) u e.symm
  rw [show off + t / 12 * 12 + t % 12 = off + t by omega] at this
  exact this
theorem open_sops {H : Type} {enc : TypeId × Value → H} {W : World} {a : Option Addr} {len cap : Nat} {d : DataW H} {ps : List MemPlace}
    (h : DataW.Trod enc Tryz.prog W 0 (fun _ => true) true 22 (.slice a len cap) d ps) :
    ∃ l : List Spl.SOp, l.length = len ∧ (∀ c ∈ l, SFits c) ∧ SRow0 W a l ∧ len ≤ maxLen := by
  obtain ⟨fuel, hf⟩ := h
  rcases Go.Deep.open_slice Tryz.underlying22 hf with ⟨hcs, _⟩ | ⟨ad, len', cap', m, n, D, Pl, hcs, _, hlc, hcm, hmm, hd, hx⟩
  · simp [Value.cells] at hcs
    obtain ⟨rfl, rfl, rfl⟩ := hcs
    exact ⟨[], rfl, (fun _ h => by cases h), .inl rfl, Nat.zero_le _⟩
  · simp [Value.cells] at hcs
    obtain ⟨rfl, rfl, rfl⟩ := hcs
    simp only [if_true] at hmm
    by_cases h0 : len = 0
    · subst h0
      exact ⟨[], rfl, (fun _ h => by cases h), .inl rfl, Nat.zero_le _⟩
    · rw [sopCells] at hx
      have each : ∀ i, i < len → ∃ c : Spl.SOp, SFits c ∧ ∀ o, o < 12 → W.cell? ((ad.add (i * 12)).add o) = (sopE.enc c)[o]? := fun i hi => by
        obtain ⟨cs', h1, h2⟩ := hx i (by omega)
        obtain ⟨c, rfl, _, hc⟩ := open_sopc h2
        obtain ⟨_, _, hcell⟩ := World.cells?_some h1
        exact ⟨c, hc, fun o ho => hcell o ho⟩
      obtain ⟨b, off, spot⟩ := ad
      have hspot : spot = none := by
        obtain ⟨c, _, hc⟩ := each 0 (by omega)
        have := hc 0 (by omega)
        simpa [Addr.add] using World.cell?_spot (show W.cell? ⟨b, off, spot⟩ = some _ by simpa [Addr.add, sopE, oc] using this)
      subst hspot
      have each2 : ∀ i, i < len → ∃ c : Spl.SOp, SFits c ∧ Rg.At W b (off + i * 12) (sopE.enc c) := fun i hi => by
        obtain ⟨c, hc, hcell⟩ := each i hi
        refine ⟨c, hc, fun t u ht => ?_⟩
        have ht5 : t < 12 := by
          rcases Nat.lt_or_ge t (sopE.enc c).length with h' | h'
          · exact h'
          · rw [List.getElem?_eq_none h'] at ht; cases ht
        rw [← ht, ← hcell t ht5]
        rw [Addr.add_lit, Addr.add_lit]
      have hf' : ∃ f : Nat → Spl.SOp, ∀ i, i < len → SFits (f i) ∧ Rg.At W b (off + i * 12) (sopE.enc (f i)) := by
        refine ⟨fun i => if h : i < len then (each2 i h).choose else Spl.SOp.zero, fun i hi => ?_⟩
        simp only [hi, dif_pos]
        exact (each2 i hi).choose_spec
      obtain ⟨f, hf'⟩ := hf'
      refine ⟨(List.range len).map f, by simp, ?_, .inr ⟨b, off, rfl, ?_, sat_flat fun i hi => ?_⟩, by omega⟩
      · intro c hc
        rw [List.mem_map] at hc
        obtain ⟨i, hi, rfl⟩ := hc
        exact (hf' i (List.mem_range.1 hi)).1
      · exact World.block_lt_of_cell? _ _ ((hf' 0 (by omega)).2 0 _ rfl)
      · have hi' : i < len := by simpa using hi
        rw [List.getElem_map, List.getElem_range]
        exact (hf' i hi').2
end Go.Proofs.YtgboghbicbnhiaaGreatDoor
