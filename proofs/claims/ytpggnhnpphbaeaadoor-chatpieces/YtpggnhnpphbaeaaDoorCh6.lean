/-
  Layer 8: readWords.
-/
import Derived.Test.YtpggnhnpphbaeaaDoorCh4
import Derived.Test.YtpggnhnpphbaeaaDoorCh5
namespace Go.Proofs.YtpggnhnpphbaeaaDoor
open Go.RowKit

set_option maxHeartbeats 2000000 in
set_option maxRecDepth 100000 in
theorem rwords_any (b c : Nat) (ps : List ByteArray) (w : World) (hl : ps.length ≤ 1000) (hsz0 : ∀ p ∈ ps, p.size ≤ 100000) (hm : MaxIn w) (hrow : Rg.Tow strE w (some ⟨b, 0, none⟩) ps) :
    Calls Tryd.prog 19 #[.slice (some ⟨b, 0, none⟩) ps.length c] w fun e w' => WPost w (Ch.rd 0 ps []) e w' := by
  obtain ⟨N, hN⟩ : ∃ N, N = ps.length := ⟨_, rfl⟩
  rw [← hN] at hl ⊢
  replace hN := Rg.hid hN
  replace hrow := Rg.hid hrow
  replace hm := Rg.hid hm
  replace hsz0 := Rg.hid hsz0
  obtain ⟨RR, hRR⟩ : ∃ RR, Ch.rd 0 ps [] = RR := ⟨_, rfl⟩
  rw [hRR]
  replace hRR := Rg.hid hRR
  go_enter Tryd.func19, Tryd.ntmps19
  go_wp2
  go_loopw [3, 8] (fun va vi wr => ∃ (i M : Nat) (xs : List Ch.St) (vs : List SV) (sa : Option Addr) (sc : Nat), i ≤ N ∧ vi = .int .i64 i ∧ va = .slice sa M sc ∧ Hid (M = vs.length) ∧ Hid (M = (i + 1) / 2) ∧ Hid (Ch.rd i (ps.drop i) xs = RR) ∧ Hid (Rg.Sow stepE w.heap.size wr sa sc vs) ∧ Hid (StsAt wr vs xs) ∧ Below w.heap.size w wr) (fun _ vi _ => N - (intOf vi).toNat)
  case atStart => exact ⟨0, 0, [], [], none, 0, Nat.zero_le _, rfl, rfl, rfl, rfl, hRR, Rg.Sow.nil, trivial, Below.refl _ _⟩
  case round =>
    obtain ⟨i, M, xs, vs, sa, sc, hin, rfl, rfl, hM, hMi, hG, hS, hX, hbw⟩ := hrel
    clear hRR
    by_cases hlt0 : i < N
    · have hlt : i < ps.length := by rw [← hN.out]; exact hlt0
      have c1 : wr.cell? ⟨b, i, none⟩ = some (.string ps[i]) := by have := str_cell (hrow.out.below hbw) hlt; rw [Nat.zero_add] at this; exact this
      have hps := hsz0.out ps[i] (List.getElem_mem hlt)
      have hG2 := hG.out
      rw [List.drop_eq_getElem_cons hlt] at hG2
      simp only [Ch.rd] at hG2
      clear hG
      generalize ps[i] = p at *
      have hz0 : (0 : Int) ≤ (i : Int) := by omega
      have hz1 : (i : Int) < (N : Int) := by omega
      have hmw := Rg.hid (hm.out.below hbw)
      by_cases hi2 : i % 2 = 0
      · have d1 : (((i : Int).tmod 2) == 0) = true := by rw [beq_iff_eq, Int.tmod_eq_emod_of_nonneg (by omega)]; omega
        have d1' : (((i : Int) % 2) == 0) = true := by rw [beq_iff_eq]; omega
        rw [if_pos hi2] at hG2
        clear hlt
        have hMi2 : Hid (M + 1 = (i + 1 + 1) / 2) := by have := hMi.out; show _ = _; omega
        have hM1 : M ≤ 1000 := by have := hMi.out; omega
        clear hi2
        cases htx : Ch.awaited p with
        | none =>
          rw [htx] at hG2
          dsimp only at hG2
          have HT : Hid (∀ W, Below wr.heap.size wr W → Calls Tryd.prog 28 #[.string p] W fun e w' => e = .panicked [giveUp] ∧ Below wr.heap.size wr w') := fun W hW => by
            have := rawaited_any p W hps (hmw.out.below hW)
            rw [htx] at this
            exact this.mono fun e w' ⟨h1, h2⟩ => ⟨h2, Rg.chain hW h1⟩
          subst hG2
          clear hS hX hM htx hMi hMi2
          go_wp2_with (go_at_call 28; refine (HT.out _ (Below.refl _ _)).mono ?_; rintro e w9 ⟨rfl, b9⟩)
          exact ⟨rfl, Rg.chain hbw b9, rfl⟩
        | some q =>
          obtain ⟨ws, ns⟩ := q
          rw [htx] at hG2
          dsimp only at hG2
          have HT : Hid (∀ W, Below wr.heap.size wr W → Calls Tryd.prog 28 #[.string p] W fun e w' => ∃ a n c b m d, e = .returned (.agg #[.slice a n c, .slice b m d, .string ⟨#[]⟩]) ∧ Hid (StAt w' ⟨a, n, c, b, m, d, ⟨#[]⟩⟩ ⟨ws, ns, ⟨#[]⟩⟩) ∧ Hid (Below wr.heap.size wr w')) := fun W hW => by
            have := rawaited_any p W hps (hmw.out.below hW)
            rw [htx] at this
            exact this.mono fun e w' ⟨h1, a, c, b, d, h2, h3, h4, h5, h6⟩ => ⟨a, _, c, b, _, d, h2, ⟨rfl, h3, h4, rfl, h5, h6, rfl⟩, Rg.chain hW h1⟩
          have HAp : Hid (∀ W a n c b m d ad, Below wr.heap.size wr W → StAt W ⟨a, n, c, b, m, d, ⟨#[]⟩⟩ ⟨ws, ns, ⟨#[]⟩⟩ → Rg.Bk ad [.slice a n c, .slice b m d, .string ⟨#[]⟩] 28 W → ∃ a' c' W', (Builtin.append_ #[22, 22] 22 #[.slice sa M sc, .slice (some ⟨ad, 0, none⟩) 1 1]).run Tryd.prog W = .ok (.slice a' (M + 1) c') W' ∧ Rg.Sow stepE w.heap.size W' a' c' (vs ++ [⟨a, n, c, b, m, d, ⟨#[]⟩⟩]) ∧ StsAt W' (vs ++ [⟨a, n, c, b, m, d, ⟨#[]⟩⟩]) (xs ++ [⟨ws, ns, ⟨#[]⟩⟩]) ∧ Below w.heap.size w W') := fun W a n c b m d ad hW hst hk => by
            have hs1 := hS.out.below hW
            obtain ⟨a', c', W', h1, h2, h3, h4⟩ := app_step hs1 (Nat.le_trans hbw.size hW.size) ⟨a, n, c, b, m, d, ⟨#[]⟩⟩ ad hk (by rw [← hM.out]; omega)
            rw [← hM.out] at h1
            refine ⟨a', c', W', h1, h2, ?_, (Rg.chain hbw hW).trans h3⟩
            exact ((hX.out.below hW).add hst).stay h3.size h4 hs1.typed step_str
          have hMv : Hid (∀ v : SV, M + 1 = (vs ++ [v]).length) := fun v => by rw [List.length_append, List.length_singleton, hM.out]
          replace hG2 := Rg.hid hG2
          clear htx hS hX hM hMi
          go_upto_region 8 with (first
            | (go_at_call 28; refine (HT.out _ (Below.refl _ _)).mono ?_; rintro e w9 ⟨a9, n9, c9, b9, m9, d9, rfl, hst, hb9⟩; obtain ⟨a', c', W', hap, hS', hX', hbw'⟩ := HAp.out (w9.alloc (.cells #[.slice a9 n9 c9, .slice b9 m9 d9, .string ⟨#[]⟩] 28)) a9 n9 c9 b9 m9 d9 w9.heap.size (Rg.chain hb9.out (Rg.al1 _ _)) (hst.out.below (Rg.al1 _ _)) (Rg.Bk.new rfl); replace hap := Rg.hid hap; replace hS' := Rg.hid hS'; replace hX' := Rg.hid hX'; replace hbw' := Rg.hid hbw')
            | (at_builtin; refine Rg.wpList_append_run rfl (.tmp 16) (.tmp 19) 22 rfl _ _ rfl rfl _ _ hap.out ?_))
          go_wp2
          go_roundw
          case rel => exact ⟨i + 1, M + 1, _, _, a', c', by omega, by go_num, rfl, hMv.out _, hMi2, hG2, hS', hX', hbw'.out⟩
          case measure => simp [intOf]; omega
      · have d1 : (((i : Int).tmod 2) == 0) = false := by rw [beq_eq_false_iff_ne, Int.tmod_eq_emod_of_nonneg (by omega)]; omega
        have d1' : (((i : Int) % 2) == 0) = false := by rw [beq_eq_false_iff_ne]; omega
        rw [if_neg hi2] at hG2
        clear hlt
        obtain ⟨k, hk⟩ : ∃ k, k = i / 2 := ⟨_, rfl⟩
        rw [← hk] at hG2
        have hkM : k < M := by have := hMi.out; omega
        have hMi2 : Hid (M = (i + 1 + 1) / 2) := by have := hMi.out; show _ = _; omega
        have hq : (i : Int).tdiv 2 = (k : Int) := by rw [Int.tdiv_eq_ediv_of_nonneg (by omega)]; omega
        have hq' : (i : Int) / 2 = (k : Int) := by omega
        have hkl : k < vs.length := by rw [← hM.out]; exact hkM
        obtain ⟨g, rfl⟩ := hS.out.place hkl
        cases htx : Ch.text true p.data.toList with
        | none =>
          rw [htx] at hG2
          dsimp only at hG2
          have HT : Hid (∀ W, Below wr.heap.size wr W → Calls Tryd.prog 29 #[.string p, .bool true] W fun e w' => e = .panicked [giveUp] ∧ Below wr.heap.size wr w') := fun W hW => by
            have := rtext_any true p W (by omega)
            rw [htx] at this
            exact this.mono fun e w' ⟨h1, h2⟩ => ⟨h2, Rg.chain hW h1⟩
          subst hG2
          clear hS hX hM htx hMi hMi2 hi2 hkM hk
          go_wp2_with (go_at_call 29; refine (HT.out _ (Below.refl _ _)).mono ?_; rintro e w9 ⟨rfl, b9⟩)
          exact ⟨rfl, Rg.chain hbw b9, rfl⟩
        | some t =>
          rw [htx] at hG2
          dsimp only at hG2
          obtain ⟨T, hT⟩ : ∃ T : ByteArray, T = ⟨t.toArray⟩ := ⟨_, rfl⟩
          rw [← hT] at hG2
          have hxl : k < xs.length := by rw [← hX.out.len]; exact hkl
          have hz2 : (0 : Int) ≤ (k : Int) := by omega
          have hz3 : (k : Int) < (M : Int) := by omega
          have HT : Hid (∀ W, Below wr.heap.size wr W → Calls Tryd.prog 29 #[.string p, .bool true] W fun e w' => e = .returned (.string T) ∧ w'.cell? ⟨g, k * 3 + 2, none⟩ = some (.string vs[k].s) ∧ (∀ i, w'.frozen? ⟨g, i, none⟩ = false) ∧ Hid (Rg.Sow stepE w.heap.size (w'.setCell ⟨g, k * 3 + 2, none⟩ (.string T)) (some ⟨g, 0, none⟩) sc (vs.set k { vs[k] with s := T })) ∧ Hid (StsAt (w'.setCell ⟨g, k * 3 + 2, none⟩ (.string T)) (vs.set k { vs[k] with s := T }) (xs.set k { xs.getD k ⟨[], [], ⟨#[]⟩⟩ with send := T })) ∧ Hid (Below w.heap.size w (w'.setCell ⟨g, k * 3 + 2, none⟩ (.string T)))) := fun W hW => by
            have := rtext_any true p W (by omega)
            rw [htx] at this
            refine this.mono fun e w' ⟨h1, h2⟩ => ?_
            have hb := Rg.chain hW h1
            have hs1 := hS.out.below hb
            have hx1 := hX.out.below hb
            obtain ⟨C, kg⟩ := hs1.typed g rfl
            have o := Rg.Only.setCell w' g (k * 3 + 2) (.string T)
            have hst := hx1.get k hkl hxl
            refine ⟨by rw [hT]; exact h2, hs1.cell (E := stepE) hkl (t := 2) (by decide), hs1.thaw, hs1.put (E := stepE) hkl (t := 2) (by decide) _ _ rfl, ?_, (Rg.chain hbw hb).trans (o.bel hs1.own)⟩
            have hgd : xs.getD k ⟨[], [], ⟨#[]⟩⟩ = xs[k] := by rw [List.getD_eq_getElem?_getD, List.getElem?_eq_getElem hxl]; rfl
            rw [hgd]
            exact (hx1.put (show StAt w' { vs[k] with s := T } { xs[k] with send := T } from ⟨hst.n, hst.wants, hst.nc, hst.m, hst.nudge, hst.md, rfl⟩) k).only kg step_str o
          have hMv : Hid (M = (vs.set k { vs[k] with s := T }).length) := by show _ = _; rw [List.length_set]; exact hM.out
          replace hG2 := Rg.hid hG2
          generalize vs.set k { vs[k] with s := T } = vs2 at *
          generalize xs.set k { xs.getD k ⟨[], [], ⟨#[]⟩⟩ with send := T } = xs2 at *
          generalize vs[k].s = s0 at *
          clear htx hS hX hM hMi hT hxl hkl hi2 hk
          go_upto_region 8 with (go_at_call 29; refine (HT.out _ (Below.refl _ _)).mono ?_; rintro e w9 ⟨rfl, z9, f9, hS9, hX9, hb9⟩)
          clear z9 f9 HT
          generalize World.setCell _ _ _ = w10 at *
          go_wp2
          go_roundw
          case rel => exact ⟨i + 1, M, xs2, vs2, some ⟨g, 0, none⟩, sc, by omega, by go_num, rfl, hMv, hMi2, hG2, hS9, hX9, hb9.out⟩
          case measure => simp [intOf]; omega
    · have hie : i = N := by omega
      subst i
      have hG2 := hG.out
      rw [List.drop_eq_nil_of_le (by rw [← hN.out]; exact Nat.le_refl _)] at hG2
      simp only [Ch.rd] at hG2
      subst hG2
      have hMx : Hid (M = xs.length) := by show _ = _; rw [hM.out, hX.out.len]
      have hle : M ≤ sc := by rw [hM.out]; exact hS.out.le
      replace hS := Rg.hid hS.out.tow
      clear hG hMi hin hlt0 hM
      go_wp2
      go_ret
      exact ⟨hbw, sa, sc, vs, by rw [← hMx.out]; rfl, hS.out, hX.out, by rw [← hMx.out]; exact hle⟩
end Go.Proofs.YtpggnhnpphbaeaaDoor
