/-
  Layer 8: readAwaited.
-/
import Derived.Test.YtpggnhnpphbaeaaDoorCh3
import Derived.RegionDies
namespace Go.Proofs.YtpggnhnpphbaeaaDoor
open Go.RowKit

/-- three stores: a struct of three cells handed back -/
theorem ret3 {b : Nat} {C : List Value} {ty : TypeId} {W : World} (h : Rg.Bk b C ty W) (hC : C.length = 3) (v0 v1 v2 : Value) :
    Rg.Bk b [v0, v1, v2] ty (((W.setCell ⟨b, 0, none⟩ v0).setCell ⟨b, 1, none⟩ v1).setCell ⟨b, 2, none⟩ v2) ∧ Rg.Only b W (((W.setCell ⟨b, 0, none⟩ v0).setCell ⟨b, 1, none⟩ v1).setCell ⟨b, 2, none⟩ v2) := by
  have k := ((h.set 0 v0).set 1 v1).set 2 v2
  match C, hC with
  | [_, _, _], _ => exact ⟨k, ((Rg.Only.setCell W b 0 v0).trans (Rg.Only.setCell _ b 1 v1)).trans (Rg.Only.setCell _ b 2 v2)⟩

set_option maxHeartbeats 2000000 in
set_option maxRecDepth 100000 in
theorem rawaited_any (s : ByteArray) (w : World) (hs : s.size ≤ 100000) (hm : MaxIn w) :
    Calls Tryd.prog 28 #[.string s] w fun e w' => APost w (Ch.awaited s) e w' := by
  obtain ⟨m, hm⟩ := hm
  have hlt := World.block_lt_of_cell? _ _ hm
  have hm1 : (w.alloc (.cells #[.slice none 0 0, .slice none 0 0, .string ⟨#[]⟩] 28)).cell? ⟨2, 0, none⟩ = some (.int .i64 m) := by
    rw [(Rg.al1 w _).cell (p := ⟨2, 0, none⟩) hlt]; exact hm
  have HSp0 := Tryd.strings_Split s ⟨#[45]⟩ m (w.alloc (.cells #[.slice none 0 0, .slice none 0 0, .string ⟨#[]⟩] 28)) (by omega) hm1 (by decide)
  have hl := Lib.splitB_all ⟨#[45]⟩ (by decide) 0 _ s rfl
  obtain ⟨ps, hps0⟩ : ∃ ps, ps = Ch.dash s := ⟨_, rfl⟩
  have hd : Lib.splitB ⟨#[45]⟩ 0 (Lib.countB s ⟨#[45]⟩) s = ps := hps0.symm
  rw [hd] at hl HSp0
  rw [← hl] at HSp0
  have hsz : Hid (∀ p ∈ ps, p.size ≤ 1000000) := fun p hp => by rw [hps0] at hp; have := Ch.dash_size hp; omega
  have hA0 : Ch.awaited s = if ps.length % 2 = 0 then none else Ch.aw 0 ps [] [] := by rw [hps0]; rfl
  rw [hA0]
  have hpl : ps.length ≤ 100001 := by
    rw [hps0]
    exact Nat.le_trans (Ch.dash_len s) (by omega)
  clear hA0 hps0 hd hl hm1 hm hlt
  obtain ⟨N, hN⟩ : ∃ N, N = ps.length := ⟨_, rfl⟩
  rw [← hN] at HSp0 hpl ⊢
  replace hN := Rg.hid hN
  obtain ⟨RR, hRR0⟩ : ∃ RR, (if N % 2 = 0 then none else Ch.aw 0 ps [] []) = RR := ⟨_, rfl⟩
  rw [hRR0]
  replace hRR0 := Rg.hid hRR0
  have kR1 : Rg.Bk w.heap.size [.slice none 0 0, .slice none 0 0, .string ⟨#[]⟩] 28 (w.alloc (.cells #[.slice none 0 0, .slice none 0 0, .string ⟨#[]⟩] 28)) := Rg.Bk.new rfl
  have hb1 := Rg.al1 w (.cells #[.slice none 0 0, .slice none 0 0, .string ⟨#[]⟩] 28)
  replace HSp0 := Rg.hid HSp0
  go_enter Tryd.func28, Tryd.ntmps28
  go_upto_region 1 with fail
  generalize World.alloc _ _ = w1 at *
  obtain ⟨R, hR⟩ : ∃ R, R = w.heap.size := ⟨_, rfl⟩
  rw [← hR] at kR1 ⊢
  have hRw : w.heap.size ≤ R := by omega
  clear hR
  have hRl := kR1.lt
  have hP2 : Rg.Tow strE (w1.alloc (.cells (ps.map Value.string).toArray 9)) (some ⟨w1.heap.size, 0, none⟩) ps := by
    have hk : Rg.Bk w1.heap.size (ps.map Value.string) 9 (w1.alloc (.cells (ps.map Value.string).toArray 9)) := Rg.Bk.new rfl
    refine ⟨.inr ⟨_, 0, rfl, hk.lt, fun t u ht => ?_⟩, fun b o e => by injection e with e; injection e with e1 e2; subst e1; exact ⟨_, hk⟩⟩
    rw [Nat.zero_add, hk.cell]
    rw [str_flat] at ht
    exact ht
  have hb2 := Rg.al1 w1 (.cells (ps.map Value.string).toArray 9)
  go_upto_region 2 with (go_at_call 33; refine HSp0.out.mono ?_; rintro e w2 ⟨rfl, rfl⟩)
  have kR2 := kR1.below hb2 kR1.lt
  replace hb2 := Rg.hid (Rg.chain hb1 hb2)
  replace hP2 := Rg.hid hP2
  have hsz2 : (w1.alloc (.cells (ps.map Value.string).toArray 9)).heap.size = w1.heap.size + 1 := by simp
  clear hb1 kR1 HSp0
  generalize World.alloc _ _ = w2 at *
  obtain ⟨PB, hPB⟩ : ∃ PB, PB = w1.heap.size := ⟨_, rfl⟩
  rw [← hPB] at hP2 hRl ⊢
  have hPl : PB < w2.heap.size := by omega
  clear hPB hsz2
  by_cases hev : N % 2 = 0
  · have d0 : (((N : Int).tmod 2) == 0) = true := by rw [beq_iff_eq, Int.tmod_eq_emod_of_nonneg (by omega)]; omega
    have d0' : (((N : Int) % 2) == 0) = true := by rw [beq_iff_eq]; omega
    have hRR := hRR0.out
    rw [if_pos hev] at hRR
    subst hRR
    clear hev kR2 hRR0
    go_wp2
    exact ⟨rfl, hb2.out, rfl⟩
  · have d0 : (((N : Int).tmod 2) == 0) = false := by rw [beq_eq_false_iff_ne, Int.tmod_eq_emod_of_nonneg (by omega)]; omega
    have d0' : (((N : Int) % 2) == 0) = false := by rw [beq_eq_false_iff_ne]; omega
    have hRR := hRR0.out
    rw [if_neg hev] at hRR
    clear hev hRR0
    have hA3 : Hid (AwAt w (w2.alloc (.cells #[.slice none 0 0, .slice none 0 0, .string ⟨#[]⟩] 28)).heap.size w2.heap.size R (some ⟨PB, 0, none⟩) ps none 0 [] none 0 [] [.slice none 0 0, .slice none 0 0, .string ⟨#[]⟩] (w2.alloc (.cells #[.slice none 0 0, .slice none 0 0, .string ⟨#[]⟩] 28))) :=
      ⟨Rg.chain hb2.out (Rg.al1 _ _), Nat.le_refl _, Rg.Bk.new rfl, kR2.old _, Rg.Sow.nil, Rg.Sow.nil, (fun _ h => by cases h), hP2.out.below (Rg.al1 _ _), ⟨by simp, hb2.out.size⟩, ⟨by have := kR2.lt; simp; omega, hRw, by have := kR2.lt; omega⟩, (fun b o e => by injection e with e; injection e with e1 e2; subst e1; simp; omega)⟩
    clear hb2 hP2 kR2 hRw hRl hPl
    go_upto_region 5 with fail
    generalize w2.alloc _ = w3 at *
    generalize w2.heap.size = S at *
    generalize hbe : w3.heap.size = base at *
    replace hRR := Rg.hid hRR
    go_wp2
    go_loopw [17] (fun vi wr => ∃ (i : Nat) (ws ns : List ByteArray) (ya : Option Addr) (yc M : Nat) (za : Option Addr) (zc K : Nat), i ≤ N ∧ vi = .int .i64 i ∧ Hid (M = ws.length) ∧ Hid (K = ns.length) ∧ M + K ≤ i ∧ Hid (Ch.aw i (ps.drop i) ws ns = RR) ∧ Hid (AwAt w base S R (some ⟨PB, 0, none⟩) ps ya yc ws za zc ns [.slice ya M yc, .slice za K zc, .string ⟨#[]⟩] wr)) (fun vi _ => N - (intOf vi).toNat)
    case atStart => exact ⟨0, [], [], none, 0, 0, none, 0, 0, Nat.zero_le _, rfl, rfl, rfl, Nat.zero_le _, hRR, hA3⟩
    case round =>
      obtain ⟨i, ws, ns, ya, yc, M, za, zc, K, hin, rfl, hM, hK, hMK, hG, hA⟩ := hrel
      clear hA3 hRR
      by_cases hlt0 : i < N
      · have hlt : i < ps.length := by rw [← hN.out]; exact hlt0
        have c1 : wr.cell? ⟨PB, i, none⟩ = some (.string ps[i]) := by have := str_cell hA.out.parts hlt; rw [Nat.zero_add] at this; exact this
        have hps := hsz.out ps[i] (List.getElem_mem hlt)
        have hG2 := hG.out
        rw [List.drop_eq_getElem_cons hlt] at hG2
        simp only [Ch.aw] at hG2
        clear hG
        generalize ps[i] = p at *
        have hz0 : (0 : Int) ≤ (i : Int) := by omega
        have hz1 : (i : Int) < (N : Int) := by omega
        by_cases hi2 : i % 2 = 0
        · have d1 : (((i : Int).tmod 2) == 0) = true := by rw [beq_iff_eq, Int.tmod_eq_emod_of_nonneg (by omega)]; omega
          have d1' : (((i : Int) % 2) == 0) = true := by rw [beq_iff_eq]; omega
          rw [if_pos hi2] at hG2
          clear hi2 hlt
          cases htx : Ch.text false p.data.toList with
          | none =>
            rw [htx] at hG2
            dsimp only at hG2
            have HT : Hid (∀ W, Below wr.heap.size wr W → Calls Tryd.prog 29 #[.string p, .bool false] W fun e w' => e = .panicked [giveUp] ∧ Below wr.heap.size wr w' ∧ w'.cell? ⟨S, 0, none⟩ = some (.slice ya M yc)) := fun W hW => by
              have := rtext_any false p W hps
              rw [htx] at this
              exact this.mono fun e w' ⟨h1, h2⟩ => ⟨h2, Rg.chain hW h1, (hA.out.below (Rg.chain hW h1)).step.cell 0⟩
            have s0 : wr.cell? ⟨S, 0, none⟩ = some (.slice ya M yc) := hA.out.step.cell 0
            have hbw := hA.out.bel
            subst hG2
            replace hbw := Rg.hid hbw
            clear hA
            go_upto_region 9 with fail
            go_region_dies
            all_goals (refine (HT.out _ ?_).mono ?_; (first | exact Below.refl _ _ | exact (Below.refl _ _).drew); rintro e w9 ⟨rfl, b9, s9⟩; first | exact ⟨rfl, Rg.chain hbw.out b9, rfl⟩ | exact ⟨rfl, (Rg.chain hbw.out b9).drew, rfl⟩)
          | some t =>
            rw [htx] at hG2
            dsimp only at hG2
            obtain ⟨T, hT⟩ : ∃ T : ByteArray, T = ⟨t.toArray⟩ := ⟨_, rfl⟩
            rw [← hT] at hG2
            have HT : Hid (∀ W, Below wr.heap.size wr W → Calls Tryd.prog 29 #[.string p, .bool false] W fun e w' => e = .returned (.string T) ∧ Below wr.heap.size wr w' ∧ w'.cell? ⟨S, 0, none⟩ = some (.slice ya M yc) ∧ (∀ i, w'.frozen? ⟨S, i, none⟩ = false) ∧ ¬ S = w'.heap.size ∧ ¬ w'.heap.size = S ∧ S < w'.heap.size) := fun W hW => by
              have := rtext_any false p W hps
              rw [htx] at this
              exact this.mono fun e w' ⟨h1, h2⟩ => ⟨by rw [hT]; exact h2, Rg.chain hW h1, (hA.out.below (Rg.chain hW h1)).step.cell 0, (hA.out.below (Rg.chain hW h1)).step.thaw, Nat.ne_of_lt (hA.out.below (Rg.chain hW h1)).step.lt, Nat.ne_of_gt (hA.out.below (Rg.chain hW h1)).step.lt, (hA.out.below (Rg.chain hW h1)).step.lt⟩
            have HAp : Hid (∀ W ad, Below wr.heap.size wr W → Rg.Bk ad [.string T] 9 W → ∃ v' W', (Builtin.append_ #[26, 26] 26 #[.slice ya M yc, .slice (some ⟨ad, 0, none⟩) 1 1]).run Tryd.prog W = .ok v' W' ∧ ∃ a' c', v' = .slice a' (M + 1) c' ∧ Hid (AwAt w base S R (some ⟨PB, 0, none⟩) ps a' c' (ws ++ [T]) za zc ns [.slice ya M yc, .slice za K zc, .string ⟨#[]⟩] W') ∧ W'.cell? ⟨S, 0, none⟩ = some (.slice ya M yc) ∧ (∀ i, W'.frozen? ⟨S, i, none⟩ = false)) := fun W ad hW hk => by
              obtain ⟨a', c', W', h1, h2⟩ := (hA.out.below hW).want T ad hk (by rw [← hM.out]; omega)
              rw [← hM.out] at h1
              exact ⟨_, W', h1, a', c', rfl, h2, h2.step.cell 0, h2.step.thaw⟩
            have s0 : wr.cell? ⟨S, 0, none⟩ = some (.slice ya M yc) := hA.out.step.cell 0
            have sf := hA.out.step.thaw
            have hM' : Hid (M + 1 = (ws ++ [T]).length) := by show _ = _; rw [List.length_append, List.length_singleton, hM.out]
            replace hG2 := Rg.hid hG2
            clear htx hT
            go_upto_region 9 with fail
            go_region_law (first
              | (go_simp; go_at_call 29; refine (HT.out _ ?_).mono ?_; (first | exact Below.refl _ _ | exact (Below.refl _ _).drew); rintro e w9 ⟨rfl, b9, s9, f9, n9, n9', l9⟩; dsimp only)
              | (refine Rg.step_append_ex (by rfl) (.tmp 26) (.tmp 29) 26 (by rfl) _ _ (by rfl) (by rfl) _ (HAp.out _ _ ?_ ?_) ?_; (first | exact Rg.chain b9 (Rg.al1 _ _) | exact (Rg.chain b9 (Rg.al1 _ _)).drew); (first | exact Rg.Bk.new rfl | exact (Rg.Bk.new (by simp)).drew); rintro v' w10 ⟨a', c', rfl, hA10, s10, f10⟩))
            all_goals
              have hA11 : Hid (AwAt w base S R (some ⟨PB, 0, none⟩) ps a' c' (ws ++ [T]) za zc ns [.slice a' (M + 1) c', .slice za K zc, .string ⟨#[]⟩] (w10.setCell ⟨S, 0, none⟩ (.slice a' (M + 1) c'))) := hA10.out.store 0 (.slice a' (M + 1) c')
              clear hA10 s10 f10 b9 s9 f9 n9 n9' l9 hA s0 sf HT HAp c1
              generalize World.setCell _ _ _ = w11 at *
              go_wp2
              go_roundw
              case rel => exact ⟨i + 1, (ws ++ [T]), ns, a', c', M + 1, za, zc, K, by omega, by go_num, hM', hK, by omega, hG2, hA11⟩
              case measure => simp [intOf]; omega
        · have d1 : (((i : Int).tmod 2) == 0) = false := by rw [beq_eq_false_iff_ne, Int.tmod_eq_emod_of_nonneg (by omega)]; omega
          have d1' : (((i : Int) % 2) == 0) = false := by rw [beq_eq_false_iff_ne]; omega
          rw [if_neg hi2] at hG2
          clear hi2 hlt
          cases htx : Ch.text true p.data.toList with
          | none =>
            rw [htx] at hG2
            dsimp only at hG2
            have HT : Hid (∀ W, Below wr.heap.size wr W → Calls Tryd.prog 29 #[.string p, .bool true] W fun e w' => e = .panicked [giveUp] ∧ Below wr.heap.size wr w' ∧ w'.cell? ⟨S, 1, none⟩ = some (.slice za K zc)) := fun W hW => by
              have := rtext_any true p W hps
              rw [htx] at this
              exact this.mono fun e w' ⟨h1, h2⟩ => ⟨h2, Rg.chain hW h1, (hA.out.below (Rg.chain hW h1)).step.cell 1⟩
            have s0 : wr.cell? ⟨S, 1, none⟩ = some (.slice za K zc) := hA.out.step.cell 1
            have hbw := hA.out.bel
            subst hG2
            replace hbw := Rg.hid hbw
            clear hA
            go_upto_region 10 with fail
            go_region_dies
            all_goals (refine (HT.out _ ?_).mono ?_; (first | exact Below.refl _ _ | exact (Below.refl _ _).drew); rintro e w9 ⟨rfl, b9, s9⟩; first | exact ⟨rfl, Rg.chain hbw.out b9, rfl⟩ | exact ⟨rfl, (Rg.chain hbw.out b9).drew, rfl⟩)
          | some t =>
            rw [htx] at hG2
            dsimp only at hG2
            obtain ⟨T, hT⟩ : ∃ T : ByteArray, T = ⟨t.toArray⟩ := ⟨_, rfl⟩
            rw [← hT] at hG2
            have HT : Hid (∀ W, Below wr.heap.size wr W → Calls Tryd.prog 29 #[.string p, .bool true] W fun e w' => e = .returned (.string T) ∧ Below wr.heap.size wr w' ∧ w'.cell? ⟨S, 1, none⟩ = some (.slice za K zc) ∧ (∀ i, w'.frozen? ⟨S, i, none⟩ = false) ∧ ¬ S = w'.heap.size ∧ ¬ w'.heap.size = S ∧ S < w'.heap.size) := fun W hW => by
              have := rtext_any true p W hps
              rw [htx] at this
              exact this.mono fun e w' ⟨h1, h2⟩ => ⟨by rw [hT]; exact h2, Rg.chain hW h1, (hA.out.below (Rg.chain hW h1)).step.cell 1, (hA.out.below (Rg.chain hW h1)).step.thaw, Nat.ne_of_lt (hA.out.below (Rg.chain hW h1)).step.lt, Nat.ne_of_gt (hA.out.below (Rg.chain hW h1)).step.lt, (hA.out.below (Rg.chain hW h1)).step.lt⟩
            have HAp : Hid (∀ W ad, Below wr.heap.size wr W → Rg.Bk ad [.string T] 9 W → ∃ v' W', (Builtin.append_ #[26, 26] 26 #[.slice za K zc, .slice (some ⟨ad, 0, none⟩) 1 1]).run Tryd.prog W = .ok v' W' ∧ ∃ a' c', v' = .slice a' (K + 1) c' ∧ Hid (AwAt w base S R (some ⟨PB, 0, none⟩) ps ya yc ws a' c' (ns ++ [T]) [.slice ya M yc, .slice za K zc, .string ⟨#[]⟩] W') ∧ W'.cell? ⟨S, 1, none⟩ = some (.slice za K zc) ∧ (∀ i, W'.frozen? ⟨S, i, none⟩ = false)) := fun W ad hW hk => by
              obtain ⟨a', c', W', h1, h2⟩ := (hA.out.below hW).nudge T ad hk (by rw [← hK.out]; omega)
              rw [← hK.out] at h1
              exact ⟨_, W', h1, a', c', rfl, h2, h2.step.cell 1, h2.step.thaw⟩
            have s0 : wr.cell? ⟨S, 1, none⟩ = some (.slice za K zc) := hA.out.step.cell 1
            have sf := hA.out.step.thaw
            have hK' : Hid (K + 1 = (ns ++ [T]).length) := by show _ = _; rw [List.length_append, List.length_singleton, hK.out]
            replace hG2 := Rg.hid hG2
            clear htx hT
            go_upto_region 10 with fail
            go_region_law (first
              | (go_simp; go_at_call 29; refine (HT.out _ ?_).mono ?_; (first | exact Below.refl _ _ | exact (Below.refl _ _).drew); rintro e w9 ⟨rfl, b9, s9, f9, n9, n9', l9⟩; dsimp only)
              | (refine Rg.step_append_ex (by rfl) (.tmp 33) (.tmp 36) 26 (by rfl) _ _ (by rfl) (by rfl) _ (HAp.out _ _ ?_ ?_) ?_; (first | exact Rg.chain b9 (Rg.al1 _ _) | exact (Rg.chain b9 (Rg.al1 _ _)).drew); (first | exact Rg.Bk.new rfl | exact (Rg.Bk.new (by simp)).drew); rintro v' w10 ⟨a', c', rfl, hA10, s10, f10⟩))
            all_goals
              have hA11 : Hid (AwAt w base S R (some ⟨PB, 0, none⟩) ps ya yc ws a' c' (ns ++ [T]) [.slice ya M yc, .slice a' (K + 1) c', .string ⟨#[]⟩] (w10.setCell ⟨S, 1, none⟩ (.slice a' (K + 1) c'))) := hA10.out.store 1 (.slice a' (K + 1) c')
              clear hA10 s10 f10 b9 s9 f9 n9 n9' l9 hA s0 sf HT HAp c1
              generalize World.setCell _ _ _ = w11 at *
              go_wp2
              go_roundw
              case rel => exact ⟨i + 1, ws, (ns ++ [T]), ya, yc, M, a', c', K + 1, by omega, by go_num, hM, hK', by omega, hG2, hA11⟩
              case measure => simp [intOf]; omega
      · have hie : i = N := by omega
        subst i
        have hG2 := hG.out
        rw [List.drop_eq_nil_of_le (by rw [← hN.out]; exact Nat.le_refl _)] at hG2
        simp only [Ch.aw] at hG2
        subst hG2
        have hk := hA.out.res
        obtain ⟨kE, oE⟩ := ret3 hk rfl (.slice ya M yc) (.slice za K zc) (.string ⟨#[]⟩)
        have post : Hid (APost w (some (ws, ns)) (.returned (.agg #[.slice ya M yc, .slice za K zc, .string ⟨#[]⟩])) _) := ⟨hA.out.bel.trans (oE.bel hA.out.lowR.2.1), ya, yc, za, zc, by rw [hM.out, hK.out], hA.out.rows.tow.only hk step_str oE, hA.out.rows.le, hA.out.rown.tow.only hk step_str oE, hA.out.rown.le⟩
        have hSR := hA.out.lowR.2.2
        have z0 : wr.cell? ⟨S, 0, none⟩ = some (.slice ya M yc) := hA.out.step.cell 0
        have z1 : wr.cell? ⟨S, 1, none⟩ = some (.slice za K zc) := hA.out.step.cell 1
        have z2 : wr.cell? ⟨S, 2, none⟩ = some (.string ⟨#[]⟩) := hA.out.step.cell 2
        have r0 : wr.cell? ⟨R, 0, none⟩ = some (.slice none 0 0) := hk.cell 0
        have r1 : wr.cell? ⟨R, 1, none⟩ = some (.slice none 0 0) := hk.cell 1
        have r2 : wr.cell? ⟨R, 2, none⟩ = some (.string ⟨#[]⟩) := hk.cell 2
        have rf := hk.thaw
        replace kE := Rg.hid kE
        clear oE hk hA hG hM hK hin hlt0
        go_wp2
        replace kE := kE.out
        replace post := post.out
        generalize World.setCell _ _ _ = WE at *
        exact bodyPost_ret (v := .agg #[.slice ya M yc, .slice za K zc, .string ⟨#[]⟩]) (by simp [results, Tryd.results28, go_sem, kE.cell]) rfl post
end Go.Proofs.YtpggnhnpphbaeaaDoor
