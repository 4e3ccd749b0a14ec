/-
  Layer 8: the document's Parse.
-/
import Derived.Test.YtdclnimmfnlnhaaDoorCh20
import Derived.Test.YtdclnimmfnlnhaaDoorMathU8
import Derived.Test.YtdclnimmfnlnhaaDoorCh8
namespace Go.Proofs.YtdclnimmfnlnhaaDoor
open Go.RowKit

set_option maxHeartbeats 2000000 in
set_option maxRecDepth 100000 in
theorem rparse_long (s : ByteArray) (w : World) (hs : 300 < s.size) : Calls Tryd.prog 11 #[.string s] w fun e w' => PPost w ([], 5) e w' := by
  have d0 : decide ((300 : Int) < (s.size : Int)) = true := by simp only [decide_eq_true_eq]; omega
  go_enter Tryd.func11, Tryd.ntmps11
  go_wp2
  exact bodyPost_ret (v := .tuple #[.slice none 0 0, .int .i64 5]) (by simp [results, Tryd.results11, go_sem]) rfl ⟨none, 0, [], rfl, Rg.Tow.nil, trivial, Nat.le_refl _, Below.refl _ _⟩

set_option maxHeartbeats 2000000 in
set_option maxRecDepth 100000 in
theorem rparse_odd (s : ByteArray) (w : World) (hs : s.size ≤ 300) (ho : s.data.toList.any (fun b => Ch.odd b.toNat) = true) : Calls Tryd.prog 11 #[.string s] w fun e w' => PPost w ([], 3) e w' := by
  have d0 : decide ((300 : Int) < (s.size : Int)) = false := by simp only [decide_eq_false_iff_not]; omega
  replace ho := Rg.hid ho
  go_enter Tryd.func11, Tryd.ntmps11
  go_wp2
  go_loopw [17] (fun vi wr => ∃ (i : Nat), i ≤ s.size ∧ vi = .int .i64 i ∧ Hid ((s.data.toList.drop i).any (fun b => Ch.odd b.toNat) = true) ∧ Below w.heap.size w wr) (fun vi _ => s.size - (intOf vi).toNat)
  case atStart => exact ⟨0, Nat.zero_le _, rfl, ho, Below.refl _ _⟩
  case round =>
    obtain ⟨i, hin, rfl, hG, hbw⟩ := hrel
    clear ho
    by_cases hlt : i < s.size
    · have hG2 := hG.out
      rw [drop_at hlt, List.any_cons] at hG2
      obtain ⟨c, hc⟩ : ∃ c, s[i] = c := ⟨_, rfl⟩
      rw [hc] at hG2
      have hz0 : (0 : Int) ≤ (i : Int) := by omega
      have hz1 : (i : Int) < (s.size : Int) := by omega
      clear hG
      by_cases h1 : c.toNat < 32
      · have e1 : decide ((c.toNat : Int) < 32) = true := by simp only [decide_eq_true_eq]; omega
        clear hG2
        go_wp2
        exact bodyPost_ret (v := .tuple #[.slice none 0 0, .int .i64 3]) (by simp [results, Tryd.results11, go_sem]) rfl ⟨none, 0, [], rfl, Rg.Tow.nil, trivial, Nat.le_refl _, hbw⟩
      · have e1 : decide ((c.toNat : Int) < 32) = false := by simp only [decide_eq_false_iff_not]; omega
        by_cases h2 : 126 < c.toNat
        · have e2 : decide ((126 : Int) < (c.toNat : Int)) = true := by simp only [decide_eq_true_eq]; omega
          clear hG2 h1
          go_wp2
          exact bodyPost_ret (v := .tuple #[.slice none 0 0, .int .i64 3]) (by simp [results, Tryd.results11, go_sem]) rfl ⟨none, 0, [], rfl, Rg.Tow.nil, trivial, Nat.le_refl _, hbw⟩
        · have e2 : decide ((126 : Int) < (c.toNat : Int)) = false := by simp only [decide_eq_false_iff_not]; omega
          rw [show Ch.odd c.toNat = false by simp [Ch.odd]; omega, Bool.false_or] at hG2
          replace hG2 := Rg.hid hG2
          clear h1 h2
          go_wp2
          go_roundw
          case rel => exact ⟨i + 1, by omega, by go_num, hG2, hbw⟩
          case measure => simp [intOf]; omega
    · have hG2 := hG.out
      rw [List.drop_eq_nil_of_le (by show s.size ≤ i; omega)] at hG2
      cases hG2

set_option maxHeartbeats 2000000 in
set_option maxRecDepth 100000 in
theorem rparse_in (s : ByteArray) (w : World) (hs : s.size ≤ 300) (ho : s.data.toList.any (fun b => Ch.odd b.toNat) = false) : Calls Tryd.prog 11 #[.string s] w fun e w' => PPost w (if 40 < (Ch.words s).length then ([], 5) else match Ch.rd 0 (Ch.words s) [] with
    | none => ([], 3)
    | some l => (l, 0)) e w' := by
  have d0 : decide ((300 : Int) < (s.size : Int)) = false := by simp only [decide_eq_false_iff_not]; omega
  have hin0 : ∀ b ∈ s.data.toList, 32 ≤ b.toNat ∧ b.toNat ≤ 126 := fun b hb => by
    have h := List.any_eq_false.1 ho b hb
    simp [Ch.odd] at h
    omega
  have HW0 := fun W => words_any s W (by omega) (fun b hb => (hin0 b hb).1)
  obtain ⟨ps, hps0⟩ : ∃ ps, ps = Ch.words s := ⟨_, rfl⟩
  have hsz : Hid (∀ p ∈ ps, p.size ≤ 100000) := fun p hp => by rw [hps0] at hp; have := Ch.words_size hp; omega
  have hwd : Hid (∀ p ∈ ps, Ch.inWord p.data.toList) := fun p hp => by rw [hps0] at hp; exact Ch.words_in hin0 hp
  rw [← hps0] at HW0 ⊢
  clear hps0 ho
  obtain ⟨N, hN⟩ : ∃ N, N = ps.length := ⟨_, rfl⟩
  rw [← hN]
  have HW : Hid (∀ W, Calls Tryd.prog 29 #[.string s] W fun e w' => ∃ a c, e = .returned (.slice a N c) ∧ Hid (Rg.Sow strE W.heap.size w' a c ps) ∧ Hid (Below W.heap.size W w')) := fun W => (HW0 W).mono fun e w' ⟨h1, a, c, h2, h3⟩ => ⟨a, c, by rw [hN]; exact h2, h3, h1⟩
  clear HW0
  replace hN := Rg.hid hN
  replace hin0 := Rg.hid hin0
  obtain ⟨r, hr⟩ : ∃ r : List Ch.St × Int, (if 40 < N then (([], 5) : List Ch.St × Int) else match Ch.rd 0 ps [] with
    | none => ([], 3)
    | some l => (l, 0)) = r := ⟨_, rfl⟩
  rw [hr]
  replace hr := Rg.hid hr
  go_enter Tryd.func11, Tryd.ntmps11
  go_wp2
  go_loopw [17] (fun vi wr => ∃ (i : Nat), i ≤ s.size ∧ vi = .int .i64 i ∧ Below w.heap.size w wr) (fun vi _ => s.size - (intOf vi).toNat)
  case atStart => exact ⟨0, Nat.zero_le _, rfl, Below.refl _ _⟩
  case round =>
    obtain ⟨i, hin, rfl, hbw⟩ := hrel
    by_cases hlt : i < s.size
    · obtain ⟨c, hc⟩ : ∃ c, s[i] = c := ⟨_, rfl⟩
      have hcw := hin0.out c (by rw [← hc]; exact Array.getElem_mem_toList _)
      have hz0 : (0 : Int) ≤ (i : Int) := by omega
      have hz1 : (i : Int) < (s.size : Int) := by omega
      have e1 : decide ((c.toNat : Int) < 32) = false := by simp only [decide_eq_false_iff_not]; omega
      have e2 : decide ((126 : Int) < (c.toNat : Int)) = false := by simp only [decide_eq_false_iff_not]; omega
      clear hcw
      go_wp2
      go_roundw
      case rel => exact ⟨i + 1, by omega, by go_num, hbw⟩
      case measure => simp [intOf]; omega
    · obtain rfl : i = s.size := by omega
      go_upto_region 10 with (go_at_call 29; refine (HW.out _).mono ?_; rintro e w2 ⟨pa, pc, rfl, hP2, hb2⟩)
      have hbw2 := Rg.hid (Rg.chain hbw hb2.out)
      replace hP2 := Rg.hid hP2.out.tow
      clear hb2 hbw HW hin hlt
      by_cases h40 : 40 < N
      · have e3 : decide ((40 : Int) < (N : Int)) = true := by simp only [decide_eq_true_eq]; omega
        have hr2 := hr.out
        rw [if_pos h40] at hr2
        subst hr2
        clear hr
        go_wp2
        exact bodyPost_ret (v := .tuple #[.slice none 0 0, .int .i64 5]) (by simp [results, Tryd.results11, go_sem]) rfl ⟨none, 0, [], rfl, Rg.Tow.nil, trivial, Nat.le_refl _, hbw2.out⟩
      have hr2 := hr.out
      rw [if_neg h40] at hr2
      have e3 : decide ((40 : Int) < (N : Int)) = false := by simp only [decide_eq_false_iff_not]; omega
      obtain ⟨RR, hRR⟩ : ∃ RR, Ch.rd 0 ps [] = RR := ⟨_, rfl⟩
      rw [hRR] at hr2
      replace hr2 := Rg.hid hr2
      replace hRR := Rg.hid hRR
      clear hr
      go_wp2
      go_loopw [6, 7] (fun va vi wr => ∃ (i M : Nat) (xs : List Ch.St) (vs : List SV) (sa : Option Addr) (sc : Nat), i ≤ N + 1 ∧ vi = .int .i64 i ∧ va = .slice sa M sc ∧ Hid (M = vs.length) ∧ Hid (M = (i + 1) / 2 ∧ i % 2 = 0) ∧ Hid (Ch.rd i (ps.drop i) xs = RR) ∧ Hid (Rg.Sow stepE w.heap.size wr sa sc vs) ∧ Hid (StsAt wr vs xs) ∧ Hid (Rg.Tow strE wr pa ps) ∧ Hid (Below w.heap.size w wr)) (fun _ vi _ => N + 1 - (intOf vi).toNat)
      case atStart => exact ⟨0, 0, [], [], none, 0, Nat.zero_le _, rfl, rfl, rfl, ⟨rfl, rfl⟩, hRR, Rg.Sow.nil, trivial, hP2, hbw2⟩
      case round =>
        obtain ⟨i, M, xs, vs, sa, sc, hin, rfl, rfl, hM, hMi, hG, hS, hX, hP, hbw⟩ := hrel
        clear hRR hP2 hbw2
        by_cases hlt0 : i < N
        · have hlt : i < ps.length := by rw [← hN.out]; exact hlt0
          obtain ⟨PB, po, rfl, hPl⟩ := hP.out.place hlt
          have c1 : wr.cell? ⟨PB, po + i, none⟩ = some (.string ps[i]) := str_cell hP.out hlt
          have hps := hsz.out ps[i] (List.getElem_mem hlt)
          have hpw := hwd.out ps[i] (List.getElem_mem hlt)
          have hG2 := hG.out
          rw [List.drop_eq_getElem_cons hlt] at hG2
          clear hG
          generalize ps[i] = p at *
          have hz0 : (0 : Int) ≤ (i : Int) := by omega
          have hz1 : (i : Int) < (N : Int) := by omega
          have e4 : decide ((i : Int) < (N : Int)) = true := by simp only [decide_eq_true_eq]; omega
          have hM1 : M ≤ 1000 := by have := hMi.out; omega
          replace hpw := Rg.hid hpw
          have hi2 : i % 2 = 0 := hMi.out.2
          have hxl : xs.length = i / 2 := by rw [← hX.out.len, ← hM.out]; have := hMi.out; omega
          have hMi2 : Hid (M + 1 = (i + 2 + 1) / 2 ∧ (i + 2) % 2 = 0) := by have := hMi.out; show _ ∧ _; omega
          have HWa := fun W => wants_any p W hps hpw.out
          cases htx : Ch.awaited p with
          | none =>
            rw [htx] at HWa
            have hR0 : RR = none := by rw [← hG2, Ch.rd, if_pos hi2, htx]
            subst hR0
            have hr3 := hr2.out
            dsimp only at hr3
            subst hr3
            have HT : Hid (∀ W, Below wr.heap.size wr W → Calls Tryd.prog 30 #[.string p] W fun e w' => e = .returned (.tuple #[.agg #[.slice none 0 0, .slice none 0 0, .string ⟨#[]⟩], .int .i64 3]) ∧ Hid (Below wr.heap.size wr w')) := fun W hW => (HWa W).mono fun e w' ⟨h1, h2⟩ => ⟨h2, Rg.chain hW h1⟩
            clear HWa htx hG2 hM hMi hMi2 hS hX hP hxl hi2 hr2
            go_upto_region 17 with (go_at_call 30; refine (HT.out _ (Below.refl _ _)).mono ?_; rintro e w9 ⟨rfl, hb9⟩)
            have hbE := Rg.hid (Rg.chain (Rg.chain hbw.out hb9.out) (Rg.al1 w9 (.cells #[.slice none 0 0, .slice none 0 0, .string ⟨#[]⟩] 45)))
            clear c1
            generalize World.alloc _ _ = wE at *
            go_wp2
            exact bodyPost_ret (v := .tuple #[.slice none 0 0, .int .i64 3]) (by simp [results, Tryd.results11, go_sem]) rfl ⟨none, 0, [], rfl, Rg.Tow.nil, trivial, Nat.le_refl _, hbE.out⟩
          | some q =>
            obtain ⟨ws, ns⟩ := q
            rw [htx] at HWa
            have HT : Hid (∀ W, Below wr.heap.size wr W → Calls Tryd.prog 30 #[.string p] W fun e w' => ∃ a9 n9 c9 d9 m9 f9, e = .returned (.tuple #[.agg #[.slice a9 n9 c9, .slice d9 m9 f9, .string ⟨#[]⟩], .int .i64 0]) ∧ Hid (StAt w' ⟨a9, n9, c9, d9, m9, f9, ⟨#[]⟩⟩ ⟨ws, ns, ⟨#[]⟩⟩) ∧ Hid (Below wr.heap.size wr w')) := fun W hW => (HWa W).mono fun e w' ⟨h1, a, c, b, d, h2, h3, h4, h5, h6⟩ => ⟨a, _, c, b, _, d, h2, ⟨rfl, h3, h4, rfl, h5, h6, rfl⟩, Rg.chain hW h1⟩
            clear HWa
            replace hG2 := Rg.hid hG2
            replace hlt := Rg.hid hlt
            replace hxl := Rg.hid hxl
            replace htx := Rg.hid htx
            replace hi2 := Rg.hid hi2
            go_upto_region 17 with (go_at_call 30; refine (HT.out _ (Below.refl _ _)).mono ?_; rintro e w9 ⟨a9, n9, c9, d9, m9, f9, rfl, hst, hb9⟩)
            have kX : Rg.Bk w9.heap.size [.slice a9 n9 c9, .slice d9 m9 f9, .string ⟨#[]⟩] 45 (w9.alloc (.cells #[.slice a9 n9 c9, .slice d9 m9 f9, .string ⟨#[]⟩] 45)) := Rg.Bk.new rfl
            have bW := Rg.al1 w9 (.cells #[.slice a9 n9 c9, .slice d9 m9 f9, .string ⟨#[]⟩] 45)
            have HAp : Hid (∀ W T ad, Below w9.heap.size w9 W → Rg.Bk ad [.slice a9 n9 c9, .slice d9 m9 f9, .string T] 45 W → ∃ a' c' W', (Builtin.append_ #[23, 23] 23 #[.slice sa M sc, .slice (some ⟨ad, 0, none⟩) 1 1]).run Tryd.prog W = .ok (.slice a' (M + 1) c') W' ∧ Rg.Sow stepE w.heap.size W' a' c' (vs ++ [⟨a9, n9, c9, d9, m9, f9, T⟩]) ∧ StsAt W' (vs ++ [⟨a9, n9, c9, d9, m9, f9, T⟩]) (xs ++ [⟨ws, ns, T⟩]) ∧ Rg.Tow strE W' (some ⟨PB, po, none⟩) ps ∧ Below w.heap.size w W') := fun W T ad hW hk => by
              have hb := Rg.chain hb9.out hW
              have hs1 := hS.out.below hb
              have hst1 := hst.out.below hW
              obtain ⟨a', c', W', h1, h2, h3, h4⟩ := app_step hs1 (Nat.le_trans hbw.out.size hb.size) ⟨a9, n9, c9, d9, m9, f9, T⟩ ad hk (by rw [← hM.out]; omega)
              rw [← hM.out] at h1
              refine ⟨a', c', W', h1, h2, ?_, (hP.out.below hb).stay h3.size h4 hs1.typed step_str, (Rg.chain hbw.out hb).trans h3⟩
              exact ((hX.out.below hb).add (show StAt W ⟨a9, n9, c9, d9, m9, f9, T⟩ ⟨ws, ns, T⟩ from ⟨hst1.n, hst1.wants, hst1.nc, hst1.m, hst1.nudge, hst1.md, rfl⟩)).stay h3.size h4 hs1.typed step_str
            have hb10 := Rg.hid (Rg.chain hb9.out bW)
            clear c1 HT hst hS hX
            generalize World.alloc _ _ = w10 at *
            obtain ⟨X, hX0⟩ : ∃ X, X = w9.heap.size := ⟨_, rfl⟩
            rw [← hX0] at kX ⊢
            have hXw : w9.heap.size ≤ X := by omega
            clear hX0
            by_cases hi1 : i + 1 < N
            · have g1 : decide ((i : Int) + 1 < (N : Int)) = true := by simp only [decide_eq_true_eq]; omega
              have hlt1 : i + 1 < ps.length := by rw [← hN.out]; exact hi1
              have c2 : w10.cell? ⟨PB, po + (i + 1), none⟩ = some (.string ps[i + 1]) := str_cell (hP.out.below hb10.out) hlt1
              have hps1 := hsz.out ps[i + 1] (List.getElem_mem hlt1)
              have hpw1 := hwd.out ps[i + 1] (List.getElem_mem hlt1)
              have hG3 := hG2.out
              rw [List.drop_eq_getElem_cons hlt1, Ch.rd_two _ _ _ _ _ hi2.out hxl.out, htx.out] at hG3
              dsimp only at hG3
              generalize ps[i + 1] = y at *
              have hz2 : (0 : Int) ≤ (i : Int) + 1 := by omega
              have hz3 : (i : Int) + 1 < (N : Int) := by omega
              have HSe := fun W => sent_any y W (by omega) hpw1
              replace hpw1 := Rg.hid hpw1
              clear hG2
              cases hty : Ch.text true y.data.toList with
              | none =>
                rw [hty] at HSe hG3
                dsimp only at hG3
                subst hG3
                have hr3 := hr2.out
                dsimp only at hr3
                subst hr3
                have HT : Hid (∀ W, Below w10.heap.size w10 W → Calls Tryd.prog 31 #[.string y] W fun e w' => e = .returned (.tuple #[.string ⟨#[]⟩, .int .i64 3]) ∧ Hid (Below w10.heap.size w10 w')) := fun W hW => (HSe W).mono fun e w' ⟨h1, h2⟩ => ⟨h2, Rg.chain hW h1⟩
                clear HSe hty hr2 HAp hM hMi hMi2 hP hxl hi2 htx kX
                go_upto_region 22 with (go_at_call 31; refine (HT.out _ (Below.refl _ _)).mono ?_; rintro e w11 ⟨rfl, hb11⟩)
                have hbE := Rg.hid (Rg.chain (Rg.chain hbw.out hb10.out) hb11.out)
                clear c2
                go_wp2
                exact bodyPost_ret (v := .tuple #[.slice none 0 0, .int .i64 3]) (by simp [results, Tryd.results11, go_sem]) rfl ⟨none, 0, [], rfl, Rg.Tow.nil, trivial, Nat.le_refl _, hbE.out⟩
              | some t =>
                rw [hty] at HSe hG3
                dsimp only at hG3
                obtain ⟨T, hT⟩ : ∃ T : ByteArray, T = ⟨t.toArray⟩ := ⟨_, rfl⟩
                rw [← hT] at hG3
                replace hG3 := Rg.hid hG3
                have HT : Hid (∀ W, Below w10.heap.size w10 W → Calls Tryd.prog 31 #[.string y] W fun e w' => e = .returned (.tuple #[.string T, .int .i64 0]) ∧ Hid (Below w10.heap.size w10 w') ∧ w'.cell? ⟨X, 2, none⟩ = some (.string ⟨#[]⟩) ∧ (∀ i, w'.frozen? ⟨X, i, none⟩ = false)) := fun W hW => (HSe W).mono fun e w' ⟨h1, h2⟩ => ⟨by rw [hT]; exact h2, Rg.chain hW h1, (kX.below (Rg.chain hW h1) kX.lt).cell 2, (kX.below (Rg.chain hW h1) kX.lt).thaw⟩
                clear HSe hty hT
                go_upto_region 24 with (go_at_call 31; refine (HT.out _ (Below.refl _ _)).mono ?_; rintro e w11 ⟨rfl, hb11, z11, f11⟩)
                have kX2 := (kX.below hb11.out kX.lt).set 2 (.string T)
                have bW2 := (Rg.chain bW hb11.out).trans ((Rg.Only.setCell w11 X 2 (.string T)).bel hXw)
                replace kX2 : Rg.Bk X [.slice a9 n9 c9, .slice d9 m9 f9, .string T] 45 (w11.setCell ⟨X, 2, none⟩ (.string T)) := kX2
                clear kX bW z11 f11 c2 HT hb11 hb10
                generalize World.setCell _ _ _ = w12 at *
                have kX := kX2
                have bW := bW2
                clear kX2 bW2
                obtain ⟨a', c', W', hap, hS', hX', hP', hbw'⟩ := HAp.out (w12.alloc (.cells #[.slice a9 n9 c9, .slice d9 m9 f9, .string T] 45)) T w12.heap.size (Rg.chain bW (Rg.al1 _ _)) (Rg.Bk.new rfl)
                replace hap := Rg.hid hap
                replace hS' := Rg.hid hS'
                replace hX' := Rg.hid hX'
                replace hP' := Rg.hid hP'
                replace hbw' := Rg.hid hbw'
                have x0 : w12.cell? ⟨X, 0, none⟩ = some (.slice a9 n9 c9) := kX.cell 0
                have x1 : w12.cell? ⟨X, 1, none⟩ = some (.slice d9 m9 f9) := kX.cell 1
                have x2 : w12.cell? ⟨X, 2, none⟩ = some (.string T) := kX.cell 2
                have xn : ¬ X = w12.heap.size := Nat.ne_of_lt kX.lt
                have hMv : Hid (M + 1 = (vs ++ [(⟨a9, n9, c9, d9, m9, f9, T⟩ : SV)]).length) := by show _ = _; rw [List.length_append, List.length_singleton, hM.out]
                clear HAp kX bW hM
                go_upto_region 15 with (at_builtin; refine Rg.wpList_append_run rfl (.tmp 72) (.tmp 74) 23 rfl _ _ rfl rfl _ _ hap.out ?_)
                clear x0 x1 x2 xn hap
                go_wp2
                go_roundw
                case rel => exact ⟨i + 2, M + 1, _, _, a', c', by omega, by go_num, rfl, hMv, hMi2, hG3, hS', hX', hP', hbw'⟩
                case measure => simp [intOf]; omega
            · have g1 : decide ((i : Int) + 1 < (N : Int)) = false := by simp only [decide_eq_false_iff_not]; omega
              have hG4 := hG2.out
              have hdr : ps.drop (i + 1) = [] := List.drop_eq_nil_of_le (by rw [← hN.out]; omega)
              rw [hdr, Ch.rd_one _ _ _ hi2.out, htx.out] at hG4
              dsimp only at hG4
              have hG3 : Hid (Ch.rd (i + 2) (ps.drop (i + 2)) (xs ++ [⟨ws, ns, ⟨#[]⟩⟩]) = RR) := by
                show _ = _
                rw [List.drop_eq_nil_of_le (by rw [← hN.out]; omega), ← hG4, Ch.rd]
              clear hG4 hdr hG2 hb10
              obtain ⟨T, hT⟩ : ∃ T : ByteArray, T = ⟨#[]⟩ := ⟨_, rfl⟩
              rw [← hT] at hG3 kX
              clear hT
              obtain ⟨a', c', W', hap, hS', hX', hP', hbw'⟩ := HAp.out (w10.alloc (.cells #[.slice a9 n9 c9, .slice d9 m9 f9, .string T] 45)) T w10.heap.size (Rg.chain bW (Rg.al1 _ _)) (Rg.Bk.new rfl)
              replace hap := Rg.hid hap
              replace hS' := Rg.hid hS'
              replace hX' := Rg.hid hX'
              replace hP' := Rg.hid hP'
              replace hbw' := Rg.hid hbw'
              have x0 : w10.cell? ⟨X, 0, none⟩ = some (.slice a9 n9 c9) := kX.cell 0
              have x1 : w10.cell? ⟨X, 1, none⟩ = some (.slice d9 m9 f9) := kX.cell 1
              have x2 : w10.cell? ⟨X, 2, none⟩ = some (.string T) := kX.cell 2
              have xn : ¬ X = w10.heap.size := Nat.ne_of_lt kX.lt
              have hMv : Hid (M + 1 = (vs ++ [(⟨a9, n9, c9, d9, m9, f9, T⟩ : SV)]).length) := by show _ = _; rw [List.length_append, List.length_singleton, hM.out]
              clear HAp kX bW hM
              go_upto_region 15 with (at_builtin; refine Rg.wpList_append_run rfl (.tmp 72) (.tmp 74) 23 rfl _ _ rfl rfl _ _ hap.out ?_)
              clear x0 x1 x2 xn hap
              go_wp2
              go_roundw
              case rel => exact ⟨i + 2, M + 1, _, _, a', c', by omega, by go_num, rfl, hMv, hMi2, hG3, hS', hX', hP', hbw'⟩
              case measure => simp [intOf]; omega
        · have hG2 := hG.out
          rw [List.drop_eq_nil_of_le (by rw [← hN.out]; omega)] at hG2
          simp only [Ch.rd] at hG2
          subst hG2
          have hr3 := hr2.out
          dsimp only at hr3
          subst hr3
          clear hr2
          have e4 : decide ((i : Int) < (N : Int)) = false := by simp only [decide_eq_false_iff_not]; omega
          have hMx : Hid (M = xs.length) := by show _ = _; rw [hM.out, hX.out.len]
          have hle : M ≤ sc := by rw [hM.out]; exact hS.out.le
          have post : Hid (PPost w (xs, 0) (.returned (.tuple #[.slice sa M sc, .int .i64 0])) wr) := ⟨sa, sc, vs, by rw [hMx.out], hS.out.tow, hX.out, by show xs.length ≤ sc; rw [← hMx.out]; exact hle, hbw.out⟩
          clear hG hMi hin hM hS hX hP hMx hle
          go_wp2
          exact bodyPost_ret (v := .tuple #[.slice sa M sc, .int .i64 0]) (by simp [results, Tryd.results11, go_sem]) rfl post.out
theorem rparse_any (s : ByteArray) (w : World) : Calls Tryd.prog 11 #[.string s] w fun e w' => PPost w (Ch.parse s) e w' := by
  unfold Ch.parse
  split
  · rename_i h; exact rparse_long s w h
  · rename_i h
    split
    · rename_i h2; exact rparse_odd s w (by omega) h2
    · rename_i h2; exact rparse_in s w (by omega) (by simpa using h2)
end Go.Proofs.YtdclnimmfnlnhaaDoor
