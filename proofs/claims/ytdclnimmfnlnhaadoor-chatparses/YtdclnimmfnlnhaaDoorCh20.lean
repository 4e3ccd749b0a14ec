/-
  Layer 8: the document's wants.
-/
import Derived.Test.YtdclnimmfnlnhaaDoorCh19
import Derived.Test.YtdclnimmfnlnhaaDoorCh4
import Derived.Test.YtdclnimmfnlnhaaDoorCh5
namespace Go.Proofs.YtdclnimmfnlnhaaDoor
open Go.RowKit

theorem whole_false (q : List UInt8 × Bool) : Ch.whole false q = q.1 := by
  unfold Ch.whole
  split
  · rfl
  · simp [Ch.fin]
theorem read_some (p : ByteArray) (t : List UInt8) (w : World) (hs : p.size ≤ 1000000) (hw : Ch.inWord p.data.toList) (ht : Ch.text false p.data.toList = some t) : Calls Tryd.prog 48 #[.string p, .bool false] w fun e w' => (∃ bare, e = .returned (.tuple #[.string ⟨t.toArray⟩, .bool bare, .int .i64 0])) ∧ Below w.heap.size w w' := by
  have h := read_any false p w hs hw
  rw [Ch.text_read] at ht
  cases hr : Ch.read false p.data.toList with
  | none => rw [hr] at ht; cases ht
  | some q =>
    rw [hr] at ht h
    simp only [Option.map_some, Option.some.injEq, whole_false] at ht
    subst ht
    exact h.mono fun e w' h => ⟨⟨q.2, h.2⟩, h.1⟩
theorem read_none (p : ByteArray) (w : World) (hs : p.size ≤ 1000000) (hw : Ch.inWord p.data.toList) (ht : Ch.text false p.data.toList = none) : Calls Tryd.prog 48 #[.string p, .bool false] w fun e w' => e = .returned (.tuple #[.string ⟨#[]⟩, .bool false, .int .i64 3]) ∧ Below w.heap.size w w' := by
  have h := read_any false p w hs hw
  rw [Ch.text_read] at ht
  cases hr : Ch.read false p.data.toList with
  | none => rw [hr] at h; exact h.mono fun e w' h => ⟨h.2, h.1⟩
  | some q => rw [hr] at ht; cases ht
/-- behind the document's wants -/
def WsPost (w : World) (r : Option (List ByteArray × List ByteArray)) (e : Ending) (w' : World) : Prop := Below w.heap.size w w' ∧ match r with
  | none => e = .returned (.tuple #[.agg #[.slice none 0 0, .slice none 0 0, .string ⟨#[]⟩], .int .i64 3])
  | some (ws, ns) => ∃ a c b d, e = .returned (.tuple #[.agg #[.slice a ws.length c, .slice b ns.length d, .string ⟨#[]⟩], .int .i64 0]) ∧ Rg.Tow strE w' a ws ∧ ws.length ≤ c ∧ Rg.Tow strE w' b ns ∧ ns.length ≤ d

set_option maxHeartbeats 2000000 in
set_option maxRecDepth 100000 in
theorem wants_any (s : ByteArray) (w : World) (hs : s.size ≤ 100000) (hw : Ch.inWord s.data.toList) :
    Calls Tryd.prog 30 #[.string s] w fun e w' => WsPost w (Ch.awaited s) e w' := by
  have HP0 := fun W => parts_any s W (by omega)
  have hne : 0 < (Ch.dash s).length := by
    rw [Ch.dash_pt, List.length_map]
    obtain ⟨x, t, _, h⟩ := Ch.pt_spl s.data.toList []
    rw [h]; simp
  obtain ⟨ps, hps0⟩ : ∃ ps, ps = Ch.dash s := ⟨_, rfl⟩
  have hsz : Hid (∀ p ∈ ps, p.size ≤ 1000000) := fun p hp => by rw [hps0] at hp; have := Ch.dash_size hp; omega
  have hwd : Hid (∀ p ∈ ps, Ch.inWord p.data.toList) := fun p hp => by rw [hps0] at hp; exact Ch.dash_in hw hp
  have hA0 : Ch.awaited s = if ps.length % 2 = 0 then none else Ch.aw 0 ps [] [] := by rw [hps0]; rfl
  rw [hA0]
  have hpl : ps.length ≤ 100001 := by
    rw [hps0]
    exact Nat.le_trans (Ch.dash_len s) (by omega)
  rw [← hps0] at HP0 hne
  clear hA0 hps0 hw
  obtain ⟨N, hN⟩ : ∃ N, N = ps.length := ⟨_, rfl⟩
  rw [← hN] at hpl hne ⊢
  have HP : Hid (∀ W, Calls Tryd.prog 47 #[.string s] W fun e w' => ∃ g c, e = .returned (.slice (some ⟨g, 0, none⟩) N c) ∧ Hid (Rg.Tow strE w' (some ⟨g, 0, none⟩) ps) ∧ g < w'.heap.size ∧ Hid (Below W.heap.size W w')) := fun W => (HP0 W).mono fun e w' ⟨h1, a, c, h2, h3⟩ => by
    obtain ⟨g, rfl⟩ := h3.place (i := 0) (by rw [← hN]; exact hne)
    obtain ⟨b, o, e1, e2⟩ := h3.tow.place (i := 0) (by rw [← hN]; exact hne)
    injection e1 with e1; injection e1 with e1; subst e1
    exact ⟨g, c, by rw [hN]; exact h2, h3.tow, e2, h1⟩
  clear HP0
  replace hN := Rg.hid hN
  obtain ⟨RR, hRR0⟩ : ∃ RR, (if N % 2 = 0 then none else Ch.aw 0 ps [] []) = RR := ⟨_, rfl⟩
  rw [hRR0]
  replace hRR0 := Rg.hid hRR0
  have kR1 : Rg.Bk w.heap.size [.slice none 0 0, .slice none 0 0, .string ⟨#[]⟩] 45 (w.alloc (.cells #[.slice none 0 0, .slice none 0 0, .string ⟨#[]⟩] 45)) := Rg.Bk.new rfl
  have hb1 := Rg.al1 w (.cells #[.slice none 0 0, .slice none 0 0, .string ⟨#[]⟩] 45)
  go_enter Tryd.func30, Tryd.ntmps30
  go_upto_region 1 with fail
  generalize World.alloc _ _ = w1 at *
  obtain ⟨R, hR⟩ : ∃ R, R = w.heap.size := ⟨_, rfl⟩
  rw [← hR] at kR1 ⊢
  have hRw : w.heap.size ≤ R := by omega
  clear hR
  have hRl := kR1.lt
  have kS2 : Rg.Bk w1.heap.size [.slice none 0 0, .slice none 0 0, .string ⟨#[]⟩] 45 (w1.alloc (.cells #[.slice none 0 0, .slice none 0 0, .string ⟨#[]⟩] 45)) := Rg.Bk.new rfl
  have kR2 := kR1.old (.cells #[.slice none 0 0, .slice none 0 0, .string ⟨#[]⟩] 45)
  have hb2 := Rg.chain hb1 (Rg.al1 w1 (.cells #[.slice none 0 0, .slice none 0 0, .string ⟨#[]⟩] 45))
  have hSw := hb1.size
  clear hb1 kR1
  go_upto_region 2 with fail
  generalize World.alloc _ _ = w2 at *
  obtain ⟨S, hS⟩ : ∃ S, S = w1.heap.size := ⟨_, rfl⟩
  rw [← hS] at kS2 hRl hSw ⊢
  clear hS
  have hRS : S ≠ R := by omega
  go_upto_region 3 with (go_at_call 47; refine (HP.out _).mono ?_; rintro e w3 ⟨PB, pc, rfl, hP3, hPl, hb23⟩)
  have kR3 := kR2.below hb23.out kR2.lt
  have kS3 := kS2.below hb23.out kS2.lt
  have hb3 := Rg.hid (Rg.chain hb2 hb23.out)
  clear hb2 hb23 kR2 kS2 HP
  by_cases hev : N % 2 = 0
  · have d0 : (((N : Int).tmod 2) == 0) = true := by rw [beq_iff_eq, Int.tmod_eq_emod_of_nonneg (by omega)]; omega
    have d0' : (((N : Int) % 2) == 0) = true := by rw [beq_iff_eq]; omega
    have hRR := hRR0.out
    rw [if_pos hev] at hRR
    subst hRR
    have hk := kR3
    obtain ⟨kE, oE⟩ := ret3 hk rfl (.slice none 0 0) (.slice none 0 0) (.string ⟨#[]⟩)
    have post : Hid (WsPost w none (.returned (.tuple #[.agg #[.slice none 0 0, .slice none 0 0, .string ⟨#[]⟩], .int .i64 3])) _) := ⟨hb3.out.trans (oE.bel hRw), rfl⟩
    have r0 : w3.cell? ⟨R, 0, none⟩ = some (.slice none 0 0) := hk.cell 0
    have r1 : w3.cell? ⟨R, 1, none⟩ = some (.slice none 0 0) := hk.cell 1
    have r2 : w3.cell? ⟨R, 2, none⟩ = some (.string ⟨#[]⟩) := hk.cell 2
    have rf := hk.thaw
    replace kE := Rg.hid kE
    clear oE hk
    clear hev kR3 kS3 hRR0 hP3
    go_wp2
    replace kE := kE.out
    replace post := post.out
    generalize World.setCell _ _ _ = WE at *
    exact bodyPost_ret (v := .tuple #[.agg #[.slice none 0 0, .slice none 0 0, .string ⟨#[]⟩], .int .i64 3]) (by simp [results, Tryd.results30, go_sem, kE.cell]) rfl post
  · have d0 : (((N : Int).tmod 2) == 0) = false := by rw [beq_eq_false_iff_ne, Int.tmod_eq_emod_of_nonneg (by omega)]; omega
    have d0' : (((N : Int) % 2) == 0) = false := by rw [beq_eq_false_iff_ne]; omega
    have hRR := hRR0.out
    rw [if_neg hev] at hRR
    clear hev hRR0
    have hA3 : Hid (AwAt w w3.heap.size S R (some ⟨PB, 0, none⟩) ps none 0 [] none 0 [] [.slice none 0 0, .slice none 0 0, .string ⟨#[]⟩] w3) :=
      ⟨hb3.out, Nat.le_refl _, kS3, kR3, Rg.Sow.nil, Rg.Sow.nil, (fun _ h => by cases h), hP3.out, ⟨kS3.lt, hSw⟩, ⟨kR3.lt, hRw, hRS⟩, (fun b o e => by injection e with e; injection e with e1 e2; subst e1; exact hPl)⟩
    clear hb3 hP3 kR3 kS3 hRw hRl hPl hSw hRS
    generalize hbe : w3.heap.size = base at *
    replace hRR := Rg.hid hRR
    go_wp2
    go_loopw [22] (fun vi wr => ∃ (i : Nat) (ws ns : List ByteArray) (ya : Option Addr) (yc M : Nat) (za : Option Addr) (zc K : Nat), i ≤ N ∧ vi = .int .i64 i ∧ Hid (M = ws.length) ∧ Hid (K = ns.length) ∧ M + K ≤ i ∧ Hid (Ch.aw i (ps.drop i) ws ns = RR) ∧ Hid (AwAt w base S R (some ⟨PB, 0, none⟩) ps ya yc ws za zc ns [.slice ya M yc, .slice za K zc, .string ⟨#[]⟩] wr)) (fun vi _ => N - (intOf vi).toNat)
    case atStart => exact ⟨0, [], [], none, 0, 0, none, 0, 0, Nat.zero_le _, rfl, rfl, rfl, Nat.zero_le _, hRR, hA3⟩
    case round =>
      obtain ⟨i, ws, ns, ya, yc, M, za, zc, K, hin, rfl, hM, hK, hMK, hG, hA⟩ := hrel
      clear hA3 hRR
      by_cases hlt0 : i < N
      · have hlt : i < ps.length := by rw [← hN.out]; exact hlt0
        have c1 : wr.cell? ⟨PB, i, none⟩ = some (.string ps[i]) := by have := str_cell hA.out.parts hlt; rw [Nat.zero_add] at this; exact this
        have hps := hsz.out ps[i] (List.getElem_mem hlt)
        have hpw := hwd.out ps[i] (List.getElem_mem hlt)
        have hG2 := hG.out
        rw [List.drop_eq_getElem_cons hlt] at hG2
        simp only [Ch.aw] at hG2
        clear hG
        generalize ps[i] = p at *
        replace hpw := Rg.hid hpw
        have hz0 : (0 : Int) ≤ (i : Int) := by omega
        have hz1 : (i : Int) < (N : Int) := by omega
        by_cases hi2 : i % 2 = 0
        · have d1 : (((i : Int).tmod 2) == 0) = true := by rw [beq_iff_eq, Int.tmod_eq_emod_of_nonneg (by omega)]; omega
          have d1' : (((i : Int) % 2) == 0) = true := by rw [beq_iff_eq]; omega
          rw [if_pos hi2] at hG2
          clear hi2 hlt
          cases htx : Ch.text false p.data.toList with
          | none =>
            rw [htx] at hG2
            dsimp only at hG2
            have HT : Hid (∀ W, Below wr.heap.size wr W → Calls Tryd.prog 48 #[.string p, .bool false] W fun e w' => e = .returned (.tuple #[.string ⟨#[]⟩, .bool false, .int .i64 3]) ∧ Below wr.heap.size wr w') := fun W hW => (read_none p W hps hpw htx).mono fun e w' ⟨h1, h2⟩ => ⟨h1, Rg.chain hW h2⟩
            subst hG2
            have hRw := hA.out.lowR.2.1
            replace hRw := Rg.hid hRw
            clear htx
            go_upto_region 11 with (go_at_call 48; refine (HT.out _ (by first | exact Below.refl _ _ | exact (Below.refl _ _).drew)).mono ?_; rintro e w9 ⟨rfl, b9⟩)
            have hA9 := hA.out.below b9
            have hk := hA9.res
            obtain ⟨kE, oE⟩ := ret3 hk rfl (.slice none 0 0) (.slice none 0 0) (.string ⟨#[]⟩)
            have post : Hid (WsPost w none (.returned (.tuple #[.agg #[.slice none 0 0, .slice none 0 0, .string ⟨#[]⟩], .int .i64 3])) _) := ⟨hA9.bel.trans (oE.bel hRw.out), rfl⟩
            have r0 : w9.cell? ⟨R, 0, none⟩ = some (.slice none 0 0) := hk.cell 0
            have r1 : w9.cell? ⟨R, 1, none⟩ = some (.slice none 0 0) := hk.cell 1
            have r2 : w9.cell? ⟨R, 2, none⟩ = some (.string ⟨#[]⟩) := hk.cell 2
            have rf := hk.thaw
            replace kE := Rg.hid kE
            clear oE hk hA9 hA
            go_wp2
            replace kE := kE.out
            replace post := post.out
            generalize World.setCell _ _ _ = WE at *
            exact bodyPost_ret (v := .tuple #[.agg #[.slice none 0 0, .slice none 0 0, .string ⟨#[]⟩], .int .i64 3]) (by simp [results, Tryd.results30, go_sem, kE.cell]) rfl post
          | some t =>
            rw [htx] at hG2
            dsimp only at hG2
            obtain ⟨T, hT⟩ : ∃ T : ByteArray, T = ⟨t.toArray⟩ := ⟨_, rfl⟩
            rw [← hT] at hG2
            have HT : Hid (∀ W, Below wr.heap.size wr W → Calls Tryd.prog 48 #[.string p, .bool false] W fun e w' => ∃ bare : Bool, e = .returned (.tuple #[.string T, .bool bare, .int .i64 0]) ∧ Below wr.heap.size wr w') := fun W hW => (read_some p t W hps hpw htx).mono fun e w' ⟨⟨b, h1⟩, h2⟩ => ⟨b, by rw [hT]; exact h1, Rg.chain hW h2⟩
            have hM' : Hid (M + 1 = (ws ++ [T]).length) := by show _ = _; rw [List.length_append, List.length_singleton, hM.out]
            replace hG2 := Rg.hid hG2
            clear htx hT
            go_upto_region 12 with (go_at_call 48; refine (HT.out _ (by first | exact Below.refl _ _ | exact (Below.refl _ _).drew)).mono ?_; rintro e w9 ⟨bare, rfl, b9⟩)
            have hA9 := Rg.hid (hA.out.below b9)
            clear hA c1 HT b9
            obtain ⟨a', c', w10, hap, hA10⟩ := (hA9.out.below (Rg.al1 w9 (.cells #[.string T] 9))).want T w9.heap.size (Rg.Bk.new rfl) (by rw [← hM.out]; omega)
            rw [← hM.out] at hap
            replace hap := Rg.hid hap
            have s0 : w9.cell? ⟨S, 0, none⟩ = some (.slice ya M yc) := hA9.out.step.cell 0
            have sn : ¬ S = w9.heap.size := Nat.ne_of_lt hA9.out.step.lt
            have sn' : ¬ w9.heap.size = S := Nat.ne_of_gt hA9.out.step.lt
            have sl : S < w9.heap.size := hA9.out.step.lt
            have s10 : w10.cell? ⟨S, 0, none⟩ = some (.slice ya M yc) := hA10.step.cell 0
            have f10 := hA10.step.thaw
            have hA11 : Hid (AwAt w base S R (some ⟨PB, 0, none⟩) ps a' c' (ws ++ [T]) za zc ns [.slice a' (M + 1) c', .slice za K zc, .string ⟨#[]⟩] (w10.setCell ⟨S, 0, none⟩ (.slice a' (M + 1) c'))) := hA10.store 0 (.slice a' (M + 1) c')
            clear hA10 hA9
            go_upto_region 17 with (at_builtin; refine Rg.wpList_append_run rfl (.tmp 41) (.tmp 43) 32 rfl _ _ rfl rfl _ _ hap.out ?_)
            all_goals
              clear s10 f10 s0 sn sn' sl hap
              generalize World.setCell _ _ _ = w11 at *
              go_wp2
              go_roundw
              case rel => exact ⟨i + 1, (ws ++ [T]), ns, a', c', M + 1, za, zc, K, by omega, by go_num, hM', hK, by omega, hG2, hA11⟩
              case measure => simp [intOf]; omega
        · have d1 : (((i : Int).tmod 2) == 0) = false := by rw [beq_eq_false_iff_ne, Int.tmod_eq_emod_of_nonneg (by omega)]; omega
          have d1' : (((i : Int) % 2) == 0) = false := by rw [beq_eq_false_iff_ne]; omega
          rw [if_neg hi2] at hG2
          clear hi2 hlt
          cases htx : Ch.text true p.data.toList with
          | none =>
            rw [htx] at hG2
            dsimp only at hG2
            have HT : Hid (∀ W, Below wr.heap.size wr W → Calls Tryd.prog 31 #[.string p] W fun e w' => e = .returned (.tuple #[.string ⟨#[]⟩, .int .i64 3]) ∧ Below wr.heap.size wr w') := fun W hW => by
              have := sent_any p W hps hpw
              rw [htx] at this
              exact this.mono fun e w' ⟨h1, h2⟩ => ⟨h2, Rg.chain hW h1⟩
            subst hG2
            have hRw := hA.out.lowR.2.1
            replace hRw := Rg.hid hRw
            clear htx
            go_upto_region 15 with (go_at_call 31; refine (HT.out _ (by first | exact Below.refl _ _ | exact (Below.refl _ _).drew)).mono ?_; rintro e w9 ⟨rfl, b9⟩)
            have hA9 := hA.out.below b9
            have hk := hA9.res
            obtain ⟨kE, oE⟩ := ret3 hk rfl (.slice none 0 0) (.slice none 0 0) (.string ⟨#[]⟩)
            have post : Hid (WsPost w none (.returned (.tuple #[.agg #[.slice none 0 0, .slice none 0 0, .string ⟨#[]⟩], .int .i64 3])) _) := ⟨hA9.bel.trans (oE.bel hRw.out), rfl⟩
            have r0 : w9.cell? ⟨R, 0, none⟩ = some (.slice none 0 0) := hk.cell 0
            have r1 : w9.cell? ⟨R, 1, none⟩ = some (.slice none 0 0) := hk.cell 1
            have r2 : w9.cell? ⟨R, 2, none⟩ = some (.string ⟨#[]⟩) := hk.cell 2
            have rf := hk.thaw
            replace kE := Rg.hid kE
            clear oE hk hA9 hA
            go_wp2
            replace kE := kE.out
            replace post := post.out
            generalize World.setCell _ _ _ = WE at *
            exact bodyPost_ret (v := .tuple #[.agg #[.slice none 0 0, .slice none 0 0, .string ⟨#[]⟩], .int .i64 3]) (by simp [results, Tryd.results30, go_sem, kE.cell]) rfl post
          | some t =>
            rw [htx] at hG2
            dsimp only at hG2
            obtain ⟨T, hT⟩ : ∃ T : ByteArray, T = ⟨t.toArray⟩ := ⟨_, rfl⟩
            rw [← hT] at hG2
            have HT : Hid (∀ W, Below wr.heap.size wr W → Calls Tryd.prog 31 #[.string p] W fun e w' => ∃ bare : Bool, e = .returned (.tuple #[.string T, .int .i64 0]) ∧ Below wr.heap.size wr w') := fun W hW => by
              have := sent_any p W hps hpw
              rw [htx] at this
              exact this.mono fun e w' ⟨h1, h2⟩ => ⟨false, by rw [hT]; exact h2, Rg.chain hW h1⟩
            have hM' : Hid (K + 1 = (ns ++ [T]).length) := by show _ = _; rw [List.length_append, List.length_singleton, hK.out]
            replace hG2 := Rg.hid hG2
            clear htx hT
            go_upto_region 16 with (go_at_call 31; refine (HT.out _ (by first | exact Below.refl _ _ | exact (Below.refl _ _).drew)).mono ?_; rintro e w9 ⟨bare, rfl, b9⟩)
            have hA9 := Rg.hid (hA.out.below b9)
            clear hA c1 HT b9
            obtain ⟨a', c', w10, hap, hA10⟩ := (hA9.out.below (Rg.al1 w9 (.cells #[.string T] 9))).nudge T w9.heap.size (Rg.Bk.new rfl) (by rw [← hK.out]; omega)
            rw [← hK.out] at hap
            replace hap := Rg.hid hap
            have s0 : w9.cell? ⟨S, 1, none⟩ = some (.slice za K zc) := hA9.out.step.cell 1
            have sn : ¬ S = w9.heap.size := Nat.ne_of_lt hA9.out.step.lt
            have sn' : ¬ w9.heap.size = S := Nat.ne_of_gt hA9.out.step.lt
            have sl : S < w9.heap.size := hA9.out.step.lt
            have s10 : w10.cell? ⟨S, 1, none⟩ = some (.slice za K zc) := hA10.step.cell 1
            have f10 := hA10.step.thaw
            have hA11 : Hid (AwAt w base S R (some ⟨PB, 0, none⟩) ps ya yc ws a' c' (ns ++ [T]) [.slice ya M yc, .slice a' (K + 1) c', .string ⟨#[]⟩] (w10.setCell ⟨S, 1, none⟩ (.slice a' (K + 1) c'))) := hA10.store 1 (.slice a' (K + 1) c')
            clear hA10 hA9
            go_upto_region 17 with (at_builtin; refine Rg.wpList_append_run rfl (.tmp 56) (.tmp 58) 32 rfl _ _ rfl rfl _ _ hap.out ?_)
            all_goals
              clear s10 f10 s0 sn sn' sl hap
              generalize World.setCell _ _ _ = w11 at *
              go_wp2
              go_roundw
              case rel => exact ⟨i + 1, ws, (ns ++ [T]), ya, yc, M, a', c', K + 1, by omega, by go_num, hM, hM', by omega, hG2, hA11⟩
              case measure => simp [intOf]; omega
      · have hie : i = N := by omega
        subst i
        have hG2 := hG.out
        rw [List.drop_eq_nil_of_le (by rw [← hN.out]; exact Nat.le_refl _)] at hG2
        simp only [Ch.aw] at hG2
        subst hG2
        have hk := hA.out.res
        obtain ⟨kE, oE⟩ := ret3 hk rfl (.slice ya M yc) (.slice za K zc) (.string ⟨#[]⟩)
        have post : Hid (WsPost w (some (ws, ns)) (.returned (.tuple #[.agg #[.slice ya M yc, .slice za K zc, .string ⟨#[]⟩], .int .i64 0])) _) := ⟨hA.out.bel.trans (oE.bel hA.out.lowR.2.1), ya, yc, za, zc, by rw [hM.out, hK.out], hA.out.rows.tow.only hk step_str oE, hA.out.rows.le, hA.out.rown.tow.only hk step_str oE, hA.out.rown.le⟩
        have hSR := hA.out.lowR.2.2
        have z0 : wr.cell? ⟨S, 0, none⟩ = some (.slice ya M yc) := hA.out.step.cell 0
        have z1 : wr.cell? ⟨S, 1, none⟩ = some (.slice za K zc) := hA.out.step.cell 1
        have z2 : wr.cell? ⟨S, 2, none⟩ = some (.string ⟨#[]⟩) := hA.out.step.cell 2
        have r0 : wr.cell? ⟨R, 0, none⟩ = some (.slice none 0 0) := hk.cell 0
        have r1 : wr.cell? ⟨R, 1, none⟩ = some (.slice none 0 0) := hk.cell 1
        have r2 : wr.cell? ⟨R, 2, none⟩ = some (.string ⟨#[]⟩) := hk.cell 2
        have rf := hk.thaw
        replace kE := Rg.hid kE
        clear oE hk hA hG hM hK hin hlt0
        go_wp2
        replace kE := kE.out
        replace post := post.out
        generalize World.setCell _ _ _ = WE at *
        exact bodyPost_ret (v := .tuple #[.agg #[.slice ya M yc, .slice za K zc, .string ⟨#[]⟩], .int .i64 0]) (by simp [results, Tryd.results30, go_sem, kE.cell]) rfl post
end Go.Proofs.YtdclnimmfnlnhaaDoor
