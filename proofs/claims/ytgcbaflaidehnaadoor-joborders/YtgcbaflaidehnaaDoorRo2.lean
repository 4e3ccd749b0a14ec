/-
  Layer 5: the document's Order.
-/
import Derived.Test.YtgcbaflaidehnaaDoorRo1
namespace Go.Proofs.YtgcbaflaidehnaaDoor
open Go.RowKit

/-- behind the document's Order -/
def RoPost (w : World) (l : List Job.Jb) (e : Ending) (w' : World) : Prop := ∃ A cap S, e = .returned (.slice A l.length cap) ∧ Job.St l S ∧ JO w.heap.size w' A cap S ∧ Below w.heap.size w w'

set_option maxHeartbeats 4000000 in
set_option maxRecDepth 100000 in
theorem rorder_any (a : Option Addr) (ca : Nat) (l : List Job.Jb) (hn : l.length ≤ 60) (w : World) (hrow : l = [] ∨ ∃ b o, a = some ⟨b, o, none⟩ ∧ b < w.heap.size ∧ ∀ (i : Nat) (h : i < l.length), JAt w b (o + i * 8) l[i]) :
    Calls Tryd.prog 7 #[.slice a l.length ca] w fun e w' => RoPost w l e w' := by
  obtain ⟨n, hnl⟩ : ∃ n, n = l.length := ⟨_, rfl⟩
  rw [← hnl]
  have hn60 : n ≤ 60 := by omega
  replace hnl := Rg.hid hnl
  replace hrow := Rg.hid hrow
  clear hn
  go_enter Tryd.func7, Tryd.ntmps7
  go_wp2
  go_loopw [3, 9] (fun v vi wr => ∃ (i : Nat) (S : List Job.Jb) (A : Option Addr) (cap : Nat), i ≤ n ∧ vi = .int .i64 i ∧ v = .slice A i cap ∧ Hid (Job.St (l.take i) S) ∧ Hid (S.length = i) ∧ Hid (JO w.heap.size wr A cap S) ∧ Below w.heap.size w wr) (fun _ vi _ => n - (intOf vi).toNat)
  case atStart => exact ⟨0, [], none, 0, Nat.zero_le _, rfl, rfl, Job.St.refl List.Pairwise.nil, rfl, .inl ⟨rfl, rfl, rfl⟩, Below.refl _ _⟩
  case round =>
    obtain ⟨i, S, A, cap, hin, rfl, rfl, hSt, hSl, hJO, hbw⟩ := hrel
    by_cases hlt : i < n
    · have hil : i < l.length := by rw [← hnl.out]; exact hlt
      obtain ⟨b, o, rfl, hb, hc⟩ : ∃ b o, a = some ⟨b, o, none⟩ ∧ b < w.heap.size ∧ ∀ (i : Nat) (h : i < l.length), JAt w b (o + i * 8) l[i] := by
        rcases hrow.out with h | h
        · rw [h] at hil; simp at hil
        · exact h
      have jx := (hc i hil).below hbw hb
      obtain ⟨x, hx⟩ : ∃ x, l[i] = x := ⟨_, rfl⟩
      rw [hx] at jx
      have htk : Hid (l.take (i + 1) = l.take i ++ [x]) := by show _ = _; rw [List.take_succ_eq_append_getElem hil, hx]
      have iz0 : (0 : Int) ≤ (i : Int) := by omega
      have iz1 : (i : Int) < (n : Int) := by omega
      clear hx hil hc
      obtain ⟨xg, xn, xk, xu, xf, xt, xc, xz⟩ := x
      obtain ⟨a0, a1, a2, a3, a4, a5, a6, a7⟩ := jx
      dsimp only at a0 a1 a2 a3 a4 a5 a6 a7
      have hbJ := hbw.alloc hbw.size (.cells #[.int .i64 xg, .int .i64 xn, .int .i64 xk, .string xu, .string xf, .string xt, .string xc, .int .i64 xz] 29)
      have hkJ : Rg.Bk wr.heap.size [.int .i64 xg, .int .i64 xn, .int .i64 xk, .string xu, .string xf, .string xt, .string xc, .int .i64 xz] 29 (wr.alloc (.cells #[.int .i64 xg, .int .i64 xn, .int .i64 xk, .string xu, .string xf, .string xt, .string xc, .int .i64 xz] 29)) := Rg.Bk.new rfl
      have hJO4 := Rg.hid (hJO.out.below (Rg.al1 wr (.cells #[.int .i64 xg, .int .i64 xn, .int .i64 xk, .string xu, .string xf, .string xt, .string xc, .int .i64 xz] 29)))
      have hAJ : Hid (∀ g, A = some ⟨g, 0, none⟩ → g < wr.heap.size) := hJO.out.lt
      have hJb : w.heap.size ≤ wr.heap.size := hbw.size
      clear hJO
      go_wp2
      generalize wr.alloc _ = W4 at *
      generalize wr.heap.size = J at *
      clear a0 a1 a2 a3 a4 a5 a6 a7 hbw
      replace hkJ := Rg.hid hkJ
      go_loopw [6] (fun vk wr2 => ∃ k : Nat, k ≤ i ∧ vk = .int .i64 k ∧ Hid (∀ q, k ≤ q → q < i → Job.lt (⟨xg, xn, xk, xu, xf, xt, xc, xz⟩ : Job.Jb) S[q]! = true) ∧ Below W4.heap.size W4 wr2) (fun vk _ => (intOf vk).toNat)
      case atStart => exact ⟨i, Nat.le_refl _, rfl, (fun q h1 h2 => by omega), Below.refl _ _⟩
      case round =>
        obtain ⟨k, hki, rfl, hgt, hb2⟩ := hrel
        go_upto_region 6 with fail
        go_cut [27] (fun s wx => ∃ B : Bool, s = .bool B ∧ Hid (B = true → 0 < k ∧ Job.lt (⟨xg, xn, xk, xu, xf, xt, xc, xz⟩ : Job.Jb) S[k - 1]! = true) ∧ Hid (B = false → k = 0 ∨ Job.lt (⟨xg, xn, xk, xu, xf, xt, xc, xz⟩ : Job.Jb) S[k - 1]! = false) ∧ Below W4.heap.size W4 wx)
        case first =>
          by_cases hk0 : k = 0
          · subst hk0
            go_big_region
            all_goals (go_wp2_with fail; go_meet; exact ⟨false, rfl, (fun h => by cases h), (fun _ => .inl (by first | trivial | rfl)), hb2.drew⟩)
          · obtain ⟨q, hq⟩ : ∃ q, k = q + 1 := ⟨k - 1, by omega⟩
            have hqS : q < S.length := by have := hSl.out; omega
            obtain ⟨g, rest, rfl, hown⟩ : ∃ g rest, A = some ⟨g, 0, none⟩ ∧ jobE.Own w.heap.size W4 g cap S rest := by
              rcases hJO4.out with ⟨_, h, _⟩ | h
              · rw [h] at hqS; simp at hqS
              · exact h
            obtain ⟨y, hy⟩ : ∃ y, S[q]! = y := ⟨_, rfl⟩
            have jy := hown.row.elem hqS
            rw [Nat.zero_add, ← Job.at_bang hqS, hy] at jy
            have hB1 : Hid (Job.lt (⟨xg, xn, xk, xu, xf, xt, xc, xz⟩ : Job.Jb) S[k - 1]! = Job.lt (⟨xg, xn, xk, xu, xf, xt, xc, xz⟩ : Job.Jb) y) := by show _ = _; rw [hq, Nat.add_sub_cancel, hy]
            have hgl := hown.lt
            have hlS : Hid (∀ W, Below W4.heap.size W4 W → W.cell? ⟨J, 0, none⟩ = some (.int .i64 xg) ∧ W.cell? ⟨J, 1, none⟩ = some (.int .i64 xn) ∧ W.cell? ⟨g, q * 8, none⟩ = some (.int .i64 y.g) ∧ W.cell? ⟨g, q * 8 + 1, none⟩ = some (.int .i64 y.n)) := fun W hW => by
              have k1 := hkJ.out.below hW hkJ.out.lt
              have k2 := jy.below hW hgl
              exact ⟨k1.cell 0, k1.cell 1, k2 0 _ rfl, k2 1 _ rfl⟩
            have HLs : Hid (∀ W, Below W4.heap.size W4 W → Calls Tryd.prog 14 #[.agg #[.int .i64 xg, .int .i64 xn], .agg #[.int .i64 y.g, .int .i64 y.n]] W fun e w' => e = .returned (.bool (Job.lt (⟨xg, xn, xk, xu, xf, xt, xc, xz⟩ : Job.Jb) y)) ∧ Below W4.heap.size W4 w' ∧ w'.cell? ⟨J, 0, none⟩ = some (.int .i64 xg) ∧ w'.cell? ⟨J, 1, none⟩ = some (.int .i64 xn) ∧ w'.cell? ⟨g, q * 8, none⟩ = some (.int .i64 y.g) ∧ w'.cell? ⟨g, q * 8 + 1, none⟩ = some (.int .i64 y.n)) := fun W hW => (rless_any xg xn y.g y.n W).mono fun e w' ⟨h1, h2⟩ => ⟨h1, Rg.chain hW h2, hlS.out _ (Rg.chain hW h2)⟩
            obtain ⟨c0, c1, c2, c3⟩ := hlS.out _ hb2
            have e1 : IntKind.i64.wrap ((k : Int) - 1) = (q : Int) := by rw [IntKind.wrap_i64]; omega
            have m0 : (0 : Int) ≤ (q : Int) := by omega
            have m1 : (q : Int) < (i : Int) := by omega
            have dk : decide ((0 : Int) < (k : Int)) = true := by simp; omega
            have dk2 : (0 : Int) < (k : Int) := by omega
            have dk3 : 0 < k := by omega
            generalize Job.lt (⟨xg, xn, xk, xu, xf, xt, xc, xz⟩ : Job.Jb) y = B at *
            obtain ⟨yg, yn, yk, yu, yf, yt, yc, yz⟩ := y
            dsimp only at HLs c2 c3
            clear hq hqS hown jy hy hgl hlS hk0
            go_region_held3 (fun w' => w'.cell? ⟨J, 0, none⟩ = some (.int .i64 xg) ∧ w'.cell? ⟨J, 1, none⟩ = some (.int .i64 xn) ∧ w'.cell? ⟨g, q * 8, none⟩ = some (.int .i64 yg) ∧ w'.cell? ⟨g, q * 8 + 1, none⟩ = some (.int .i64 yn)) (go_keep) (first
              | (go_at_call 14; refine (HLs.out _ ?_).mono ?_; (first | exact hb2 | exact hb2.drew); rintro e w9 ⟨rfl, b9, z0, z1, z2, z3⟩))
            all_goals (go_wp2_with fail; go_meet; exact ⟨B, rfl, (fun h => ⟨dk3, by rw [hB1.out]; exact h⟩), (fun h => .inr (by rw [hB1.out]; exact h)), b9⟩)
        case rest =>
          obtain ⟨B, rfl, hBt, hBf, bx⟩ := hcut
          cases B
          case true =>
            have hk0 := (hBt.out rfl).1
            have hk2 := (hBt.out rfl).2
            have e1 : IntKind.i64.wrap ((k : Int) - 1) = ((k - 1 : Nat) : Int) := by rw [IntKind.wrap_i64]; omega
            go_wp2
            go_roundw
            case rel => exact ⟨k - 1, by omega, by first | rfl | go_num | (rw [e1]), (fun q h1 h2 => by by_cases e : q = k - 1; (· rw [e]; exact hk2); exact hgt.out q (by omega) h2), bx⟩
            case measure => simp [intOf]; omega
          case false =>
            have hBf' := hBf.out rfl
            have hkJx := hkJ.out.below bx hkJ.out.lt
            have hJOx := hJO4.out.below bx
            have hbx := Rg.chain hbJ bx
            have hst' : Hid (Job.St (l.take (i + 1)) (S.take k ++ [(⟨xg, xn, xk, xu, xf, xt, xc, xz⟩ : Job.Jb)] ++ S.drop k)) := by
              show Job.St _ _
              rw [htk.out]
              refine Job.St.ins (by rw [List.take_append_drop]; exact hSt.out) (fun u hu => ?_) (fun u hu => ?_)
              · obtain ⟨q, hq, rfl⟩ := List.mem_iff_getElem.1 hu
                rw [List.getElem_take]
                have hqk : q < k := by rw [List.length_take] at hq; omega
                have hl := hSl.out
                have hkl : Job.Le S[k - 1]! (⟨xg, xn, xk, xu, xf, xt, xc, xz⟩ : Job.Jb) := by
                  rcases hBf' with h | h
                  · omega
                  · exact (Job.le_iff _ _).1 h
                rw [← Job.at_bang (d := S) (i := q) (by omega)]
                by_cases e : q = k - 1
                · rw [e]; exact hkl
                · exact (Job.srt_at hSt.out.srt (i := q) (j := k - 1) (by omega) (by omega)).trans hkl
              · obtain ⟨q, hq, rfl⟩ := List.mem_iff_getElem.1 hu
                rw [List.getElem_drop]
                have hql : k + q < S.length := by rw [List.length_drop] at hq; omega
                rw [← Job.at_bang hql]
                exact hgt.out (k + q) (by omega) (by have := hSl.out; omega)
            have hlen' : Hid ((S.take k ++ [(⟨xg, xn, xk, xu, xf, xt, xc, xz⟩ : Job.Jb)] ++ S.drop k).length = i + 1) := by show _ = _; have := hSl.out; simp; omega
            have hJlt := hkJx.lt
            obtain ⟨g', cap', rest', w5, hap, hown5, hb5, hJ5, hgJ⟩ := (hJOx.below (Rg.al1 wc (.cells #[.int .i64 xg, .int .i64 xn, .int .i64 xk, .string xu, .string xf, .string xt, .string xc, .int .i64 xz] 29))).append (⟨xg, xn, xk, xu, xf, xt, xc, xz⟩ : Job.Jb) wc.heap.size (fun t u ht => by rw [Nat.zero_add, (Rg.Bk.new (C := [.int .i64 xg, .int .i64 xn, .int .i64 xk, .string xu, .string xf, .string xt, .string xc, .int .i64 xz]) (ty := 29) rfl).cell t]; exact ht) (by simp; have := hbx.size; omega) (by have := hSl.out; omega) J (by simp; omega) (fun g hg => by have := hAJ.out g hg; omega)
            rw [hSl.out] at hap
            have hkJ5 : Rg.Bk J [.int .i64 xg, .int .i64 xn, .int .i64 xk, .string xu, .string xf, .string xt, .string xc, .int .i64 xz] 29 w5 := (hkJx.old (.cells #[.int .i64 xg, .int .i64 xn, .int .i64 xk, .string xu, .string xf, .string xt, .string xc, .int .i64 xz] 29)).same hJ5
            have hbw5 : Below w.heap.size w w5 := (Rg.chain hbx (Rg.al1 wc (.cells #[.int .i64 xg, .int .i64 xn, .int .i64 xk, .string xu, .string xf, .string xt, .string xc, .int .i64 xz] 29))).trans hb5
            have hkS : k ≤ S.length := by have := hSl.out; omega
            obtain ⟨k1, hk1⟩ : ∃ k1, k1 = k + 1 := ⟨_, rfl⟩
            obtain ⟨N1, hN1⟩ : ∃ N1, N1 = i + 1 := ⟨_, rfl⟩
            have hcapn := hown5.le
            rw [List.length_append, List.length_singleton, hSl.out, ← hN1] at hcapn
            rw [← hN1] at hap
            have e0 : (0 : Int) ≤ (k : Int) := by omega
            have e1 : (k : Int) ≤ (N1 : Int) := by omega
            have e2 : (0 : Int) ≤ (k1 : Int) := by omega
            have e3 : (k1 : Int) ≤ (N1 : Int) := by omega
            have e5 : (N1 : Int) ≤ (cap' : Int) := by omega
            have e6 : (k : Int) < (N1 : Int) := by omega
            have e7 : IntKind.i64.wrap ((k : Int) + 1) = (k1 : Int) := by rw [IntKind.wrap_i64]; omega
            have hkc : ¬ cap' = k := by omega
            have hfin : Hid (∀ W6, jobE.Own w.heap.size W6 g' cap' ((S ++ [(⟨xg, xn, xk, xu, xf, xt, xc, xz⟩ : Job.Jb)]).take (k + 1) ++ S.drop k) rest' → Rg.Only g' w5.drew W6 → (∃ u0 u1 u2 u3 u4 u5 u6 u7, W6.cell? ⟨g', k * 8, none⟩ = some u0 ∧ W6.cell? ⟨g', k * 8 + 1, none⟩ = some u1 ∧ W6.cell? ⟨g', k * 8 + 2, none⟩ = some u2 ∧ W6.cell? ⟨g', k * 8 + 3, none⟩ = some u3 ∧ W6.cell? ⟨g', k * 8 + 4, none⟩ = some u4 ∧ W6.cell? ⟨g', k * 8 + 5, none⟩ = some u5 ∧ W6.cell? ⟨g', k * 8 + 6, none⟩ = some u6 ∧ W6.cell? ⟨g', k * 8 + 7, none⟩ = some u7) ∧ (∀ j, W6.frozen? ⟨g', j, none⟩ = false) ∧ Rg.Bk J [.int .i64 xg, .int .i64 xn, .int .i64 xk, .string xu, .string xf, .string xt, .string xc, .int .i64 xz] 29 W6 ∧
                Hid (JO w.heap.size ((((((((W6.setCell ⟨g', k * 8, none⟩ (.int .i64 xg)).setCell ⟨g', k * 8 + 1, none⟩ (.int .i64 xn)).setCell ⟨g', k * 8 + 2, none⟩ (.int .i64 xk)).setCell ⟨g', k * 8 + 3, none⟩ (.string xu)).setCell ⟨g', k * 8 + 4, none⟩ (.string xf)).setCell ⟨g', k * 8 + 5, none⟩ (.string xt)).setCell ⟨g', k * 8 + 6, none⟩ (.string xc)).setCell ⟨g', k * 8 + 7, none⟩ (.int .i64 xz)) (some ⟨g', 0, none⟩) cap' (S.take k ++ [(⟨xg, xn, xk, xu, xf, xt, xc, xz⟩ : Job.Jb)] ++ S.drop k) ∧
                  Below w.heap.size w ((((((((W6.setCell ⟨g', k * 8, none⟩ (.int .i64 xg)).setCell ⟨g', k * 8 + 1, none⟩ (.int .i64 xn)).setCell ⟨g', k * 8 + 2, none⟩ (.int .i64 xk)).setCell ⟨g', k * 8 + 3, none⟩ (.string xu)).setCell ⟨g', k * 8 + 4, none⟩ (.string xf)).setCell ⟨g', k * 8 + 5, none⟩ (.string xt)).setCell ⟨g', k * 8 + 6, none⟩ (.string xc)).setCell ⟨g', k * 8 + 7, none⟩ (.int .i64 xz)))) := fun W6 h3 h4 => by
              have hl : k < ((S ++ [(⟨xg, xn, xk, xu, xf, xt, xc, xz⟩ : Job.Jb)]).take (k + 1) ++ S.drop k).length := by simp; omega
              have hq := h3.row.elem hl
              rw [Nat.zero_add] at hq
              obtain ⟨q0, q1, q2, q3, q4, q5, q6, q7⟩ := job_at (show Rg.At W6 g' (k * 8) (jobE.enc ⟨_, _, _, _, _, _, _, _⟩) from hq)
              have hp := job_put h3 hl (⟨xg, xn, xk, xu, xf, xt, xc, xz⟩ : Job.Jb)
              rw [ins_setJ S (⟨xg, xn, xk, xu, xf, xt, xc, xz⟩ : Job.Jb) k hkS] at hp
              have hb6 := hbw5.drew.trans (h4.bel h3.new)
              refine ⟨⟨_, _, _, _, _, _, _, _, q0, q1, q2, q3, q4, q5, q6, q7⟩, h3.thaw, hkJ5.drew.same (h4.block J (Ne.symm hgJ)), .inr ⟨g', rest', rfl, hp⟩, ?_⟩
              exact (((((((hb6.setCell h3.new _).setCell h3.new _).setCell h3.new _).setCell h3.new _).setCell h3.new _).setCell h3.new _).setCell h3.new _).setCell h3.new _
            have hcopy : Hid (∀ o, (o = (k + 1) * 8 ∨ (S.length = k ∧ o = 0)) → ∃ W', (Builtin.copy_ #[22, 22] 3 #[.slice (some ⟨g', o, none⟩) (N1 - k1) (cap' - k1), .slice (some ⟨g', k * 8, none⟩) (N1 - k) (cap' - k)]).run Tryd.prog w5.drew = .ok (.int .i64 ((i - k : Nat) : Int)) W' ∧ jobE.Own w.heap.size W' g' cap' ((S ++ [(⟨xg, xn, xk, xu, xf, xt, xc, xz⟩ : Job.Jb)]).take (k + 1) ++ S.drop k) rest' ∧ Rg.Only g' w5.drew W') := fun o ho => by
              subst hk1
              have := ins_copy hown5.drew k hkS 3 (cap' - (k + 1)) (cap' - k) o ho
              rw [hSl.out, ← hN1] at this
              exact this
            have hil := hSl.out
            obtain ⟨x0, x1, x2, x3, x4, x5, x6, x7⟩ : wc.cell? ⟨J, 0, none⟩ = some (.int .i64 xg) ∧ wc.cell? ⟨J, 1, none⟩ = some (.int .i64 xn) ∧ wc.cell? ⟨J, 2, none⟩ = some (.int .i64 xk) ∧ wc.cell? ⟨J, 3, none⟩ = some (.string xu) ∧ wc.cell? ⟨J, 4, none⟩ = some (.string xf) ∧ wc.cell? ⟨J, 5, none⟩ = some (.string xt) ∧ wc.cell? ⟨J, 6, none⟩ = some (.string xc) ∧ wc.cell? ⟨J, 7, none⟩ = some (.int .i64 xz) := ⟨hkJx.cell 0, hkJx.cell 1, hkJx.cell 2, hkJx.cell 3, hkJx.cell 4, hkJx.cell 5, hkJx.cell 6, hkJx.cell 7⟩
            by_cases hck : cap' = k1
            · have hN1k : N1 = k1 := by omega
              obtain ⟨W6, hcp, hown6, honly⟩ := hcopy.out 0 (.inr ⟨by omega, rfl⟩)
              obtain ⟨⟨u0, u1, u2, u3, u4, u5, u6, u7, y0, y1, y2, y3, y4, y5, y6, y7⟩, yf, kJ6, post⟩ := hfin.out W6 hown6 honly
              obtain ⟨s0, s1, s2, s3, s4, s5, s6, s7⟩ : W6.cell? ⟨J, 0, none⟩ = some (.int .i64 xg) ∧ W6.cell? ⟨J, 1, none⟩ = some (.int .i64 xn) ∧ W6.cell? ⟨J, 2, none⟩ = some (.int .i64 xk) ∧ W6.cell? ⟨J, 3, none⟩ = some (.string xu) ∧ W6.cell? ⟨J, 4, none⟩ = some (.string xf) ∧ W6.cell? ⟨J, 5, none⟩ = some (.string xt) ∧ W6.cell? ⟨J, 6, none⟩ = some (.string xc) ∧ W6.cell? ⟨J, 7, none⟩ = some (.int .i64 xz) := ⟨kJ6.cell 0, kJ6.cell 1, kJ6.cell 2, kJ6.cell 3, kJ6.cell 4, kJ6.cell 5, kJ6.cell 6, kJ6.cell 7⟩
              subst hck
              subst hN1k
              rw [Nat.sub_self] at hcp
              replace hcp := Rg.hid hcp
              replace hap := Rg.hid hap
              replace hN1 := Rg.hid hN1
              replace hk1 := Rg.hid hk1
              clear hcopy hfin hown6 honly kJ6 hown5 hb5 hJ5 hkJ5 hbw5 hJOx hkJx hbx bx hBf hBt hBf' hgt hil hJlt hkS hJO4 hkJ hAJ htk hSt hrow hbJ hb2 hlt
              go_upto_region 9 with (at_builtin; refine Rg.wpList_append_run rfl (.tmp 30) (.tmp 32) 22 rfl _ _ rfl rfl _ _ hap.out ?_)
              clear x0 x1 x2 x3 x4 x5 x6 x7 hap
              go_cut [41] (fun _ wx => wx = W6)
              case first =>
                go_region_held3 (Rg.Free) (exact Rg.free _) (first | (refine Rg.step_copy_run (by rfl) (.tmp 37) (.tmp 40) 22 22 (by rfl) _ _ (by rfl) (by rfl) hcp.out ?_))
                all_goals (go_wp2_with fail; go_meet; rfl)
              case rest =>
                subst hcut
                go_wp2
                go_roundw
                case rel => exact ⟨i + 1, S.take k ++ [(⟨xg, xn, xk, xu, xf, xt, xc, xz⟩ : Job.Jb)] ++ S.drop k, some ⟨g', 0, none⟩, _, by omega, by go_num, by rw [hN1.out], hst', hlen', post.out.1, post.out.2⟩
                case measure => simp [intOf]; omega
            · obtain ⟨W6, hcp, hown6, honly⟩ := hcopy.out (k1 * 8) (.inl (by rw [hk1]))
              obtain ⟨⟨u0, u1, u2, u3, u4, u5, u6, u7, y0, y1, y2, y3, y4, y5, y6, y7⟩, yf, kJ6, post⟩ := hfin.out W6 hown6 honly
              obtain ⟨s0, s1, s2, s3, s4, s5, s6, s7⟩ : W6.cell? ⟨J, 0, none⟩ = some (.int .i64 xg) ∧ W6.cell? ⟨J, 1, none⟩ = some (.int .i64 xn) ∧ W6.cell? ⟨J, 2, none⟩ = some (.int .i64 xk) ∧ W6.cell? ⟨J, 3, none⟩ = some (.string xu) ∧ W6.cell? ⟨J, 4, none⟩ = some (.string xf) ∧ W6.cell? ⟨J, 5, none⟩ = some (.string xt) ∧ W6.cell? ⟨J, 6, none⟩ = some (.string xc) ∧ W6.cell? ⟨J, 7, none⟩ = some (.int .i64 xz) := ⟨kJ6.cell 0, kJ6.cell 1, kJ6.cell 2, kJ6.cell 3, kJ6.cell 4, kJ6.cell 5, kJ6.cell 6, kJ6.cell 7⟩
              replace hcp := Rg.hid hcp
              replace hap := Rg.hid hap
              replace hN1 := Rg.hid hN1
              replace hk1 := Rg.hid hk1
              clear hcopy hfin hown6 honly kJ6 hown5 hb5 hJ5 hkJ5 hbw5 hJOx hkJx hbx bx hBf hBt hBf' hgt hil hJlt hkS hJO4 hkJ hAJ htk hSt hrow hbJ hb2 hlt
              go_upto_region 9 with (at_builtin; refine Rg.wpList_append_run rfl (.tmp 30) (.tmp 32) 22 rfl _ _ rfl rfl _ _ hap.out ?_)
              clear x0 x1 x2 x3 x4 x5 x6 x7 hap
              go_cut [41] (fun _ wx => wx = W6)
              case first =>
                go_region_held3 (Rg.Free) (exact Rg.free _) (first | (refine Rg.step_copy_run (by rfl) (.tmp 37) (.tmp 40) 22 22 (by rfl) _ _ (by rfl) (by rfl) hcp.out ?_))
                all_goals (go_wp2_with fail; go_meet; rfl)
              case rest =>
                subst hcut
                go_wp2
                go_roundw
                case rel => exact ⟨i + 1, S.take k ++ [(⟨xg, xn, xk, xu, xf, xt, xc, xz⟩ : Job.Jb)] ++ S.drop k, some ⟨g', 0, none⟩, _, by omega, by go_num, by rw [hN1.out], hst', hlen', post.out.1, post.out.2⟩
                case measure => simp [intOf]; omega
    · obtain rfl : i = n := by omega
      go_wp2
      go_ret
      refine ⟨A, cap, S, by rw [← hnl.out]; rfl, ?_, hJO.out, hbw⟩
      have := hSt.out; rw [List.take_of_length_le (by rw [← hnl.out]; exact Nat.le_refl _)] at this; exact this
end Go.Proofs.YtgcbaflaidehnaaDoor
