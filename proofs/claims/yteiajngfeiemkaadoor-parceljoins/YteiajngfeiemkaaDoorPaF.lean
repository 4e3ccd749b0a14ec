/-
  Walks of layer 13: the document's Join.
-/
import Derived.Test.YteiajngfeiemkaaDoorPaE
namespace Go.Proofs.YteiajngfeiemkaaDoor
open Go.RowKit
namespace Pa
theorem left (a b c : Nat) (ha : a ≤ 6000) (hb : b = c) : ∃ M : Nat, wrap64 (6000 - (a : Int)) = (M : Int) ∧ IntKind.i64.wrap (6000 - (a : Int)) = (M : Int) ∧ (decide ((M : Int) < (b : Int)) = decide (6000 < a + c)) ∧ (decide (M < b) = decide (6000 < a + c)) := by
  refine ⟨6000 - a, ?_, ?_, ?_, ?_⟩
  · unfold wrap64; omega
  · rw [IntKind.wrap_i64]; omega
  · apply decide_eq_decide.2; omega
  · apply decide_eq_decide.2; omega
theorem fits (a : ByteArray) (b : ByteArray) (n m : Nat) (ha : a.size = n) (hn : n ≤ 6000) (hb : b.size = m) (hm : m ≤ 9000) : ¬ 9223372036854775807 < a.size + b.size := by omega
end Pa
theorem jOutMore {w : World} {P : Nat} {xt : Int} {D : ByteArray} {W w' : World} (h : JOut w P xt D W) (b : Below W.heap.size W w') : JOut w P xt D w' := ⟨Rg.chain h.bel b, h.bk.below b h.bk.lt⟩
set_option maxHeartbeats 4000000 in
set_option maxRecDepth 100000 in
theorem rjoin_any (l : List Pa.Pc) (hn : l.length ≤ 10000) (hd : ∀ p ∈ l, p.data.length ≤ 9000) (a : Option Addr) (ca : Nat) (w : World) (hrow : Hid (PRow w a l)) :
    Calls Tryd.prog 19 #[.slice a l.length ca] w fun e w' => e = .returned (Pa.joinV (Pa.join [] l)) ∧ Below w.heap.size w w' := by
  obtain ⟨n, hnl⟩ : ∃ n, n = l.length := ⟨_, rfl⟩
  rw [← hnl]
  have hn1 : n ≤ 10000 := by omega
  generalize hR : Pa.join [] l = R
  replace hR := Rg.hid hR
  replace hnl := Rg.hid hnl
  replace hd := Rg.hid hd
  clear hn
  go_enter Tryd.func19, Tryd.ntmps19
  go_wp2
  go_loopw [4, 9] (fun vs vi wr => ∃ (i : Nat) (s : List UInt8) (B : ByteArray), i ≤ n ∧ vi = .int .i64 i ∧ vs = .string B ∧ Hid (B = ⟨s.toArray⟩) ∧ s.length ≤ 6000 ∧ Hid (Pa.join s (l.drop i) = R) ∧ Below w.heap.size w wr) (fun _ vi _ => n - (intOf vi).toNat)
  case atStart => exact ⟨0, [], ⟨#[]⟩, Nat.zero_le _, rfl, rfl, rfl, by simp, hR, Below.refl _ w⟩
  case round =>
    obtain ⟨i, s, B, hin, rfl, rfl, hBs, hs6, hG, hbw⟩ := hrel
    by_cases hlt : i < n
    · have hil : i < l.length := by rw [← hnl.out]; exact hlt
      obtain ⟨x, hx⟩ : ∃ x, l[i] = x := ⟨_, rfl⟩
      have hxd : x.data.length ≤ 9000 := hd.out x (by rw [← hx]; exact List.getElem_mem hil)
      have hdr := Pa.drop_cons hil hx
      obtain ⟨b1, o1, rfl, hb1, ha1⟩ : ∃ b o, a = some ⟨b, o, none⟩ ∧ b < w.heap.size ∧ Rg.At w b o (parE.flat l) := by
        rcases hrow.out with h | h
        · rw [h] at hil; simp at hil
        · exact h
      have y1 := par_at ((ha1.elem hil).below hbw hb1)
      rw [hx, show parE.m = 2 from rfl] at y1
      obtain ⟨xt, xd⟩ := x
      obtain ⟨c0, c1⟩ := y1
      dsimp only at c0 c1 hxd
      obtain ⟨D, hD⟩ : ∃ D : ByteArray, D = ⟨xd.toArray⟩ := ⟨_, rfl⟩
      have hDs : D.size = xd.length := by rw [hD]; exact If.size_of xd
      have hBz : B.size = s.length := by rw [hBs.out]; exact If.size_of s
      rw [← hD] at c1
      replace hD := Rg.hid hD
      have iz0 : (0 : Int) ≤ (i : Int) := by omega
      have iz1 : (i : Int) < (n : Int) := by omega
      have hG' := hG.out
      rw [hdr] at hG'
      have hdl := Pa.drop_last hil
      rw [← hnl.out] at hdl
      generalize hrr : l.drop (i + 1) = r at *
      replace hrr := Rg.hid hrr
      obtain ⟨n1, hn1', w1, w2⟩ := Pa.pred n (by omega) hn1
      have bA := If.more hbw (.cells #[.int .i64 xt, .string D] 23)
      have kA : Rg.Bk wr.heap.size [.int .i64 xt, .string D] 23 (wr.alloc (.cells #[.int .i64 xt, .string D] 23)) := Rg.Bk.new rfl
      clear hx ha1 hrow hil hdr hG
      replace hd := trivial
      replace hDs := Rg.hid hDs
      replace hBz := Rg.hid hBz
      go_upto_region 5 with fail
      have d0 := kA.cell 0; have d1 := kA.cell 1; simp only [List.getElem?_cons_zero, List.getElem?_cons_succ] at d0 d1
      clear c0 c1
      generalize wr.alloc _ = WA at *
      generalize wr.heap.size = P at *
      by_cases h122 : xt = 122 ∧ i + 1 = n
      · obtain ⟨rfl, hi1⟩ := h122
        have hr : R = Pa.wh s xd := by rw [← hG']; exact Pa.join_last rfl (hdl.2 hi1)
        obtain ⟨q1, q0⟩ := Pa.is_last hn1'.out hi1
        obtain ⟨X, hX⟩ : ∃ X : ByteArray, X = ⟨(Pa.sum s).toArray⟩ := ⟨_, rfl⟩
        obtain ⟨C, hC⟩ : ∃ C : Nat, C = Pa.crc s := ⟨_, rfl⟩
        have HC : Hid (∀ W, JOut w P 122 D W → Calls Tryd.prog 28 #[.string B] W fun e w' => e = .returned (.int .i64 (C : Int)) ∧ JOut w P 122 D w' ∧ w'.cell? ⟨P, 1, none⟩ = some (.string D)) := fun W hW => by
          have h := refCrc_any B W (by rw [hBz.out]; unfold maxLen; exact Nat.le_trans hs6 (by decide))
          rw [hBs.out] at h ⊢
          rw [hC]
          exact h.mono fun e w' ⟨h1, h2⟩ => ⟨h1, by rw [h2]; exact hW, by rw [h2]; exact hW.bk.cell 1⟩
        have HT : Hid (∀ W, JOut w P 122 D W → Calls Tryd.prog 27 #[.int .i64 (C : Int)] W fun e w' => e = .returned (.string X) ∧ JOut w P 122 D w' ∧ w'.cell? ⟨P, 1, none⟩ = some (.string D)) := fun W hW => by
          rw [hX, hC]
          exact (refText_any _ W (by have := Pa.crc_lt s; omega) (by have := Pa.crc_lt s; omega)).mono fun e w' ⟨h1, h2⟩ => ⟨h1, jOutMore hW h2, (jOutMore hW h2).bk.cell 1⟩
        have hI : JOut w P 122 D WA := ⟨bA, kA⟩
        have hcmp : (D.toList == X.toList) = decide (xd = Pa.sum s) := by
          rw [tl_eq, tl_eq, hD.out, hX]
          show (xd == Pa.sum s) = _
          by_cases e : xd = Pa.sum s
          · rw [decide_eq_true e, beq_iff_eq]; exact e
          · rw [decide_eq_false e, beq_eq_false_iff_ne]; exact e
        replace hX := Rg.hid hX
        replace hC := Rg.hid hC
        by_cases hq : xd = Pa.sum s
        · have hr' : Hid (R = .ok s) := by rw [hr]; exact if_pos hq
          rw [decide_eq_true hq] at hcmp
          clear hG' hr hdl hR hxd hDs hD kA hq hX hC hs6
          go_upto_region 6 with fail
          go_region_held3 (fun w' => w'.cell? ⟨P, 1, none⟩ = some (.string D)) (go_keep) (first
            | (go_at_call 28; refine (HC.out _ ?_).mono ?_; (first | exact hI | exact hI.drew); rintro e w2 ⟨rfl, o2, e1⟩)
            | (go_at_call 27; refine (HT.out _ ?_).mono ?_; (first | exact o2 | exact o2.drew); rintro e w3 ⟨rfl, o3, e3⟩))
          all_goals
            go_wp2
            go_ret2
            exact ⟨by rw [hr'.out, hBs.out]; rfl, o3.bel⟩
        · have hr' : Hid (R = .error 4) := by rw [hr]; exact if_neg hq
          rw [decide_eq_false hq] at hcmp
          clear hG' hr hdl hR hxd hDs hD kA hq hX hC hs6
          go_upto_region 6 with fail
          go_region_held3 (fun w' => w'.cell? ⟨P, 1, none⟩ = some (.string D)) (go_keep) (first
            | (go_at_call 28; refine (HC.out _ ?_).mono ?_; (first | exact hI | exact hI.drew); rintro e w2 ⟨rfl, o2, e1⟩)
            | (go_at_call 27; refine (HT.out _ ?_).mono ?_; (first | exact o2 | exact o2.drew); rintro e w3 ⟨rfl, o3, e3⟩))
          all_goals
            go_wp2
            go_ret2
            exact ⟨by rw [hr'.out]; rfl, o3.bel⟩
      · by_cases h100 : xt = 100
        · subst h100
          obtain ⟨M, v1, v2, v3, v4⟩ := Pa.left B.size D.size xd.length (by rw [hBz.out]; exact hs6) hDs.out
          rw [hBz.out] at v3 v4
          by_cases hbig : 6000 < s.length + xd.length
          · have hr : Hid (R = .error 5) := by rw [← hG', Pa.join_long rfl hbig]; rfl
            rw [decide_eq_true hbig] at v3 v4
            clear hG' hdl hR hxd hDs hD h122 hbig hBz
            go_wp2
            go_ret2
            exact ⟨by rw [hr.out]; rfl, bA⟩
          · have hr : Hid (Pa.join (s ++ xd) r = R) := by
              have := hG'; rwa [Pa.join_more rfl hbig] at this
            rw [decide_eq_false hbig] at v3 v4
            have hs2 : (s ++ xd).length ≤ 6000 := Pa.app_le hbig
            have hfit := Pa.fits B D _ _ hBz.out hs6 hDs.out hxd
            have hB2 : Hid (B ++ D = ⟨(s ++ xd).toArray⟩) := by show _ = _; rw [hBs.out, hD.out]; exact If.ba_app s xd
            obtain ⟨B2, hB3⟩ : ∃ B2, B ++ D = B2 := ⟨_, rfl⟩
            rw [hB3] at hB2
            clear hG' hdl hR hxd hDs hD h122 hbig hBz
            go_wp2
            go_roundw
            case rel => exact ⟨i + 1, s ++ xd, B2, by omega, by go_num, rfl, hB2, hs2, (by rw [hrr.out]; exact hr), bA⟩
            case measure => simp [intOf]; omega
        · have hr : Hid (R = .error 3) := by
            rw [← hG', Pa.join_form (fun h => h122 ⟨h.1, hdl.1 h.2⟩) h100]; rfl
          have q1 : (xt == 100) = false := beq_eq_false_iff_ne.2 h100
          by_cases h1 : xt = 122
          · subst h1
            obtain ⟨q2, q0⟩ := Pa.not_last hn1'.out h122
            clear hG' hdl hR hxd hDs hD h122 h100 hBz
            go_wp2
            go_ret2
            exact ⟨by rw [hr.out]; rfl, bA⟩
          · have q2 : (xt == 122) = false := beq_eq_false_iff_ne.2 h1
            clear hG' hdl hR hxd hDs hD h122 h100 h1 hBz
            go_wp2
            go_ret2
            exact ⟨by rw [hr.out]; rfl, bA⟩
    · have hie : i = n := by omega
      have hr : Hid (R = .error 2) := by have := hG.out; rw [List.drop_of_length_le (by rw [← hnl.out]; omega), Pa.join_end] at this; exact this.symm
      clear hG hrow hd
      go_wp2
      go_ret2
      exact ⟨by rw [hr.out]; rfl, hbw⟩
end Go.Proofs.YteiajngfeiemkaaDoor
