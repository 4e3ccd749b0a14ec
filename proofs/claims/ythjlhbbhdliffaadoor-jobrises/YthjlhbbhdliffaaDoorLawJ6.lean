/-
  Walks of the laws of layer 5: JobRises.
-/
import Derived.Test.YthjlhbbhdliffaaDoorSrt13
namespace Go.Proofs.YthjlhbbhdliffaaDoor
open Go.RowKit

namespace Job
def cnt (l S : List Jb) (x : Jb) (k : Nat) : Int := ((l.take k).count x : Int) - ((S.take k).count x : Int)
theorem count_take {l : List Jb} {k : Nat} (h : k < l.length) (x : Jb) : (l.take (k + 1)).count x = (l.take k).count x + (if l[k]! = x then 1 else 0) := by
  rw [List.take_succ_eq_append_getElem h, List.count_append, at_bang h]
  congr 1
  by_cases e : l[k] = x
  · simp [e]
  · rw [if_neg e]; simp [e]
theorem cnt_next {l S : List Jb} {k : Nat} (h : k < l.length) (h' : k < S.length) (x : Jb) : cnt l S x (k + 1) = cnt l S x k + (if l[k]! = x then 1 else 0) - (if S[k]! = x then 1 else 0) := by
  unfold cnt
  rw [count_take h, count_take h']
  split <;> split <;> push_cast <;> omega
theorem cnt_bound (l S : List Jb) (x : Jb) (k : Nat) (h : l.length ≤ 1000) (h' : S.length ≤ 1000) : -1000 ≤ cnt l S x k ∧ cnt l S x k ≤ 1000 := by
  unfold cnt
  have := List.count_le_length (a := x) (l := l.take k)
  have := List.count_le_length (a := x) (l := S.take k)
  rw [List.length_take] at *
  omega
theorem cnt_end {l S : List Jb} (h : St l S) (x : Jb) : cnt l S x l.length = 0 := by
  unfold cnt
  rw [List.take_length, List.take_of_length_le (by rw [h.len]; exact Nat.le_refl _), h.count]; omega
end Job

set_option maxHeartbeats 8000000 in
set_option maxRecDepth 100000 in
theorem rises_row (b o cap : Nat) (l : List Job.Jb) (hn : l.length ≤ maxLen) (w : World) (hb : b < w.heap.size) (hc : ∀ (i : Nat) (h : i < l.length), JAt w b (o + i * 8) l[i]) (hw : Ok w) :
    Calls Tryd.prog 7 #[.slice (some ⟨b, o, none⟩) l.length cap] w fun e w' => e = .returned (.bool true) ∧ Below w.heap.size w w' := by
  have HL := hide (long_any (some ⟨b, o, none⟩) cap l w hn (.inr ⟨b, o, rfl, hb, hc⟩))
  have HA : Hid (∀ W, Below w.heap.size w W → Calls Tryd.prog 9 #[] W fun e w' => e = .returned (.bool true) ∧ Below w.heap.size w w') := fun W hW => (awake_any W (hw.below hW)).mono fun e w' ⟨h1, h2⟩ => ⟨h1, hW.trans (h2.mono hW.size)⟩
  obtain ⟨i0, hi, hz0, hz1, hz2⟩ := infoJob'
  have hc' := hide hc
  have hlen := flat_length l
  have hone := hide (flat_one l)
  obtain ⟨news, hnews⟩ : ∃ x, x = flat l := ⟨_, rfl⟩
  rw [← hnews] at hlen hone
  replace hnews := hide hnews
  clear hc hw
  go_enter Tryd.func7, Tryd.ntmps7
  go_wp2_with (go_at_call 8; refine HL.out.mono ?_)
  intro e w1 h1
  obtain ⟨L, rfl, h60, b1⟩ := h1
  cases L
  · replace h60 := h60 rfl
    have hb0 := below_alloc1 w1 (.cells #[] 25)
    have hcells : Hid (∀ (t : Nat) (u : Value), news[t]? = some u → (w1.alloc (.cells #[] 25)).cell? ⟨b, o + t, none⟩ = some u) := fun t u hu => by
      rw [hb0.cell (p := ⟨b, o + t, none⟩) (Nat.lt_of_lt_of_le hb b1.size), b1.cell (p := ⟨b, o + t, none⟩) hb]
      exact row_cells hc'.out t u (by rw [← hnews.out]; exact hu)
    go_wp2_with (at_builtin; refine wpList_append_own _ rfl _ _ 38 rfl w1.heap.size 25 i0 (.agg zcells) 8 96 Tryd.underlying38 hi hz0 hz1 hz2 rfl (by decide) _ _ _ rfl (World.ownsRow_made w1 #[] 0 (Nat.le_refl _) (Nat.zero_le _) (by simp)) ⟨b, o, none⟩ l.length cap news rfl ?c0 ?c1 ?c2 ?c3 ?c4 ?c5 ?_)
    case c0 => exact hlen
    case c1 => intro j u hu; have := hcells.out j u hu; cases j <;> simpa [Addr.add] using this
    case c2 => exact hone.out
    case c3 => unfold maxLen; omega
    case c4 => omega
    case c5 => simp
    intro v' w2 hown hgrow hne
    rw [hnews.out] at hown
    obtain ⟨gi, ci, ri, rfl, hgi, hSi⟩ := own_some hown (hb0.grown hgrow (by simp) (fun k hk => by simp [Value.ownBlock] at hk; omega)) hne
    have b2 := b1.trans (hSi.bel.mono b1.size)
    have HO := hide (order_some gi ri ci l w1 w2 h60 hSi)
    clear hown hgrow hne hcells hSi hlen hone
    go_wp2_with (go_at_call 16; refine HO.out.mono ?_)
    intro e w3 h3
    obtain ⟨g1, c1, r1, S, rfl, hSt, hg1, hS1⟩ := h3
    have b3 := b2.trans (hS1.bel.mono b2.size)
    have hSl := hSt.len
    obtain ⟨n, hnl⟩ : ∃ n, n = l.length := ⟨_, rfl⟩
    rw [← hnl] at h60 hSl ⊢
    replace hSt := hide hSt
    replace hS1 := hide hS1
    replace hnl := hide hnl
    replace hSl := hide hSl
    clear HO HL
    go_wp2
    go_loopw [23] (fun vi wr => ∃ i : Nat, i ≤ n ∧ vi = .int .i64 i ∧ Below w3.heap.size w3 wr) (fun vi _ => n - (intOf vi).toNat)
    case atStart => exact ⟨0, Nat.zero_le _, rfl, Below.refl _ _⟩
    case round =>
      obtain ⟨i, hin, rfl, hbw⟩ := hrel
      by_cases hlt : i < n
      · have hiS : i < S.length := by rw [hSl.out]; exact hlt
        obtain ⟨x, hx⟩ : ∃ x, S[i]! = x := ⟨_, rfl⟩
        have hxr : Hid (∀ W, Below w3.heap.size w3 W → JAt W g1 (i * 8) x) := fun W hW => by
          have := (hS1.out.below hW).job hiS
          rw [← Job.at_bang hiS, hx] at this; exact this
        have hor : Hid (∀ q, i = q + 1 → Job.Le S[q]! x) := fun q hq => by rw [← hx]; exact Job.srt_at hSt.out.srt (by omega) hiS
        have iz0 : (0 : Int) ≤ (i : Int) := by omega
        have iz1 : (i : Int) < (n : Int) := by omega
        have zg := (hS1.out.below hbw).lt
        go_upto_region 9 with fail
        go_cut [75] (fun s75 wx => s75 = .bool false ∧ Below w3.heap.size w3 wx)
        case first =>
          obtain ⟨a0, a1, a2, a3, a4, a5, a6, a7⟩ := hxr.out _ hbw
          rcases Nat.eq_zero_or_pos i with h0 | h0
          · subst h0
            go_big_region
            all_goals (go_wp2_with fail; go_meet; exact ⟨rfl, hbw.drew⟩)
          · obtain ⟨q, hq⟩ : ∃ q, i = q + 1 := ⟨i - 1, by omega⟩
            have hqS : q < S.length := by omega
            have jq := (hS1.out.below hbw).job hqS
            rw [← Job.at_bang hqS] at jq
            have hle := hor.out q hq
            obtain ⟨y, hy⟩ : ∃ y, S[q]! = y := ⟨_, rfl⟩
            rw [hy] at jq hle
            have e1 : IntKind.i64.wrap ((i : Int) - 1) = (q : Int) := by rw [IntKind.wrap_i64]; omega
            have qz0 : (0 : Int) ≤ (q : Int) := by omega
            have qz1 : (q : Int) < (n : Int) := by omega
            have d0 : decide ((0 : Int) < (i : Int)) = true := by simp; omega
            have d0' : (0 : Int) < (i : Int) := by omega
            have d0'' : 0 < i := h0
            have d1 : decide (x.g < y.g) = false := by unfold Job.Le at hle; simp; omega
            have hn2 : x.g = y.g → decide (x.n < y.n) = false := fun h => by unfold Job.Le at hle; simp; omega
            clear hq hy hle hqS h0
            obtain ⟨xg, xn, xk, xu, xf, xt, xc, xz⟩ := x
            obtain ⟨yg, yn, yk, yu, yf, yt, yc, yz⟩ := y
            obtain ⟨b0, b1', b2', b3', b4, b5, b6, b7⟩ := jq
            dsimp only at a0 a1 b0 b1' d1 hn2
            clear a2 a3 a4 a5 a6 a7 b2' b3' b4 b5 b6 b7
            by_cases hg : xg = yg
            · have d2 : (xg == yg) = true := by simp [hg]
              have d3 := hn2 hg
              clear hn2 hg
              go_big_region
              all_goals (go_wp2_with fail; go_meet; exact ⟨rfl, hbw.drew⟩)
            · have d2 : (xg == yg) = false := by simp [hg]
              clear hn2 hg
              go_big_region
              all_goals (go_wp2_with fail; go_meet; exact ⟨rfl, hbw.drew⟩)
        case rest =>
          obtain ⟨rfl, hbx⟩ := hcut
          clear hor hbw iz0
          go_wp2
          go_loopw [78, 5] (fun vk vc wr => ∃ k : Nat, k ≤ n ∧ vk = .int .i64 k ∧ vc = .int .i64 (Job.cnt l S x k) ∧ Below w3.heap.size w3 wr) (fun vk _ _ => n - (intOf vk).toNat)
          case atStart => exact ⟨0, Nat.zero_le _, rfl, by simp [Job.cnt], hbx⟩
          case round =>
            obtain ⟨k, hkn, rfl, rfl, hbk⟩ := hrel
            by_cases hlk : k < n
            · have hkl : k < l.length := by rw [← hnl.out]; exact hlk
              have hkS : k < S.length := by rw [hSl.out]; exact hlk
              have hnx := Job.cnt_next hkl hkS x
              have hbd := Job.cnt_bound l S x k (by have := hnl.out; omega) (by have := hSl.out; omega)
              obtain ⟨y, hy⟩ : ∃ y, l[k]! = y := ⟨_, rfl⟩
              obtain ⟨z, hz⟩ : ∃ z, S[k]! = z := ⟨_, rfl⟩
              rw [hy, hz] at hnx
              have hyr : Hid (∀ W, Below w3.heap.size w3 W → JAt W b (o + k * 8) y) := fun W hW => by
                have := (hc'.out k hkl).below (b3.trans (hW.mono b3.size)) hb
                rw [← Job.at_bang hkl, hy] at this; exact this
              have hzr : Hid (∀ W, Below w3.heap.size w3 W → JAt W g1 (k * 8) z) := fun W hW => by
                have := (hS1.out.below hW).job hkS
                rw [← Job.at_bang hkS, hz] at this; exact this
              have kz0 : (0 : Int) ≤ (k : Int) := by omega
              have kz1 : (k : Int) < (n : Int) := by omega
              have iz0 : (0 : Int) ≤ (i : Int) := by omega
              obtain ⟨B1, hB1⟩ : ∃ B1, B1 = decide (y = x) := ⟨_, rfl⟩
              obtain ⟨B2, hB2⟩ : ∃ B2, B2 = decide (z = x) := ⟨_, rfl⟩
              have E1 : Hid (∀ W, (binOp .eql 25 (jv y) (jv x)).run Tryd.prog W = .ok (.bool B1) W) := fun W => by rw [hB1]; exact eql_job y x W
              have E2 : Hid (∀ W, (binOp .eql 25 (jv z) (jv x)).run Tryd.prog W = .ok (.bool B2) W) := fun W => by rw [hB2]; exact eql_job z x W
              have hnx2 : Job.cnt l S x (k + 1) = Job.cnt l S x k + (if B1 = true then 1 else 0) - (if B2 = true then 1 else 0) := by rw [hnx, hB1, hB2]; simp
              obtain ⟨C, hC⟩ : ∃ C, C = Job.cnt l S x k := ⟨_, rfl⟩
              rw [← hC] at hnx2 hbd ⊢
              obtain ⟨hbd1, hbd2⟩ := hbd
              replace hnx2 := hide hnx2
              clear hC hy hz hkl hkS hnx hB1 hB2
              go_upto_region 15 with fail
              go_cut [89] (fun s wx => s = .bool B1 ∧ Below w3.heap.size w3 wx)
              case first =>
                obtain ⟨a0, a1, a2, a3, a4, a5, a6, a7⟩ := hxr.out _ hbk
                obtain ⟨b0, b1', b2', b3', b4, b5, b6, b7⟩ := hyr.out _ hbk
                have E := E1.out
                clear E1 E2 hnx2
                obtain ⟨xg, xn, xk, xu, xf, xt, xc, xz⟩ := x
                obtain ⟨yg, yn, yk, yu, yf, yt, yc, yz⟩ := y
                dsimp only [jv] at a0 a1 a2 a3 a4 a5 a6 a7 b0 b1' b2' b3' b4 b5 b6 b7 E
                go_big_region
                all_goals (go_wp2_with fail; go_meet; exact ⟨rfl, hbk.drew⟩)
              case rest =>
                obtain ⟨rfl, hby⟩ := hcut
                clear E1 hyr hbk
                cases B1
                all_goals
                  go_upto_region 17 with fail
                  go_cut [100] (fun s wx => s = .bool B2 ∧ Below w3.heap.size w3 wx)
                  case first =>
                    obtain ⟨a0, a1, a2, a3, a4, a5, a6, a7⟩ := hxr.out _ hby
                    obtain ⟨b0, b1', b2', b3', b4, b5, b6, b7⟩ := hzr.out _ hby
                    have E := E2.out
                    clear E2 hnx2
                    obtain ⟨xg, xn, xk, xu, xf, xt, xc, xz⟩ := x
                    obtain ⟨yg, yn, yk, yu, yf, yt, yc, yz⟩ := z
                    dsimp only [jv] at a0 a1 a2 a3 a4 a5 a6 a7 b0 b1' b2' b3' b4 b5 b6 b7 E
                    go_big_region
                    all_goals (go_wp2_with fail; go_meet; exact ⟨rfl, hby.drew⟩)
                  case rest =>
                    obtain ⟨rfl, hbz⟩ := hcut
                    clear E2 hzr
                    cases B2
                    all_goals
                      go_wp2
                      go_roundw
                      case rel => first | exact ⟨k + 1, by omega, by go_num, by have h9 := hnx2.out; simp at h9; first | go_num | (congr 1; omega) | (rw [h9]; done) | (rw [h9]; go_num) | (simp [h9]; done) | (trace_state; fail), hbz⟩ | ((repeat apply Exists.intro); exact ⟨⟨k + 1, by omega, by go_num, by have h9 := hnx2.out; simp at h9; first | go_num | (congr 1; omega) | (rw [h9]; done) | (rw [h9]; go_num) | (simp [h9]; done) | (trace_state; fail), hbz⟩, rfl⟩)
                      case measure => simp [intOf]; omega
            · obtain rfl : k = n := by omega
              have hz : Job.cnt l S x k = 0 := by
                have := Job.cnt_end hSt.out x
                rw [← hnl.out] at this; exact this
              go_wp2
              go_roundw
              case rel => first | exact ⟨i + 1, by omega, by go_num, hbk⟩ | ((repeat apply Exists.intro); exact ⟨⟨i + 1, by omega, by go_num, hbk⟩, rfl⟩)
              case measure => simp [intOf]; omega
      · obtain rfl : i = n := by omega
        have b4 := b3.trans (hbw.mono b3.size)
        have hS4 := hS1.out.below hbw
        have hbn := below_alloc1 wr (.cells #[] 25)
        have hlenS := flat_length S
        have honeS := hide (flat_one S)
        have hcS : ∀ (j : Nat) (h : j < S.length), JAt wr g1 (0 + j * 8) S[j] := fun j h => by rw [Nat.zero_add]; exact hS4.job h
        obtain ⟨nS, hnS⟩ : ∃ x, x = flat S := ⟨_, rfl⟩
        have hcellS : Hid (∀ (t : Nat) (u : Value), nS[t]? = some u → (wr.alloc (.cells #[] 25)).cell? ⟨g1, 0 + t, none⟩ = some u) := fun t u hu => by
          rw [hbn.cell (p := ⟨g1, 0 + t, none⟩) hS4.lt]; exact row_cells hcS t u (by rw [← hnS]; exact hu)
        rw [← hnS] at hlenS honeS
        rw [hSl.out] at hlenS
        replace hnS := hide hnS
        have hSsrt := hide hSt.out.srt
        have hS4' := hide hS4
        clear hcS hS4
        go_wp2_with (at_builtin; refine wpList_append_own _ rfl _ _ 38 rfl wr.heap.size 25 i0 (.agg zcells) 8 96 Tryd.underlying38 hi hz0 hz1 hz2 rfl (by decide) _ _ _ rfl (World.ownsRow_made wr #[] 0 (Nat.le_refl _) (Nat.zero_le _) (by simp)) ⟨g1, 0, none⟩ i c1 nS rfl ?c0 ?c1 ?c2 ?c3 ?c4 ?c5 ?_)
        case c0 => exact hlenS
        case c1 => intro j u hu; have := hcellS.out j u hu; cases j <;> simpa [Addr.add] using this
        case c2 => exact honeS.out
        case c3 => unfold maxLen; omega
        case c4 => omega
        case c5 => simp
        intro v' w5 hown hgrow hne
        rw [hnS.out, ← hSl.out] at hown
        obtain ⟨gj, cj', rj, hvj, hgj, hSj⟩ := own_some hown (hbn.grown hgrow (by simp) (fun k hk => by simp [Value.ownBlock] at hk; omega)) hne
        subst hvj
        have b5 := b4.trans (hSj.bel.mono b4.size)
        have HO := hide (order_some gj rj cj' S wr w5 (by rw [hSl.out]; exact h60) hSj)
        have hS5 := hide (hS4'.out.below hSj.bel)
        rw [hSl.out] at HO
        clear hown hgrow hne hcellS hSj hlenS honeS
        rw [hSl.out]
        go_wp2_with (go_at_call 16; refine HO.out.mono ?_)
        intro e w6 h6
        obtain ⟨g2, c2, r2, S2, he6, hSt2, hg2, hS6⟩ := h6
        rw [hSl.out] at he6
        subst he6
        have hSS : S2 = S := hSt2.uniq (Job.St.refl hSsrt.out)
        subst hSS
        have b6 := b5.trans (hS6.bel.mono b5.size)
        have hS6' := hide hS6
        have hS7 := hide (hS5.out.below hS6.bel)
        clear hS6 HO
        go_wp2
        go_loopw [113] (fun vk wr' => ∃ k : Nat, k ≤ i ∧ vk = .int .i64 k ∧ Below w6.heap.size w6 wr') (fun vk _ => i - (intOf vk).toNat)
        case atStart => exact ⟨0, Nat.zero_le _, rfl, Below.refl _ _⟩
        case round =>
          obtain ⟨k, hk, rfl, hbk⟩ := hrel
          by_cases hlk : k < i
          · have hkS : k < S2.length := by rw [hSl.out]; exact hlk
            have ja := (hS6'.out.below hbk).job hkS
            have jb := (hS7.out.below hbk).job hkS
            rw [← Job.at_bang hkS] at ja jb
            have za := (hS6'.out.below hbk).lt
            have zb := (hS7.out.below hbk).lt
            obtain ⟨x, hx⟩ : ∃ x, S2[k]! = x := ⟨_, rfl⟩
            rw [hx] at ja jb
            have kz0 : (0 : Int) ≤ (k : Int) := by omega
            have kz1 : (k : Int) < (i : Int) := by omega
            clear hx hkS
            obtain ⟨xg, xn, xk, xu, xf, xt, xc, xz⟩ := x
            obtain ⟨a0, a1, a2, a3, a4, a5, a6, a7⟩ := ja
            obtain ⟨d0, d1, d2, d3, d4, d5, d6, d7⟩ := jb
            dsimp only at a0 a1 a2 a3 a4 a5 a6 a7 d0 d1 d2 d3 d4 d5 d6 d7
            go_wp2
            go_big_region
            all_goals go_wp2
            go_roundw
            case rel => exact ⟨k + 1, by omega, by go_num, hbk.drew⟩
            case measure => simp [intOf]; omega
          · obtain rfl : k = i := by omega
            have b7 := b6.trans (hbk.mono b6.size)
            go_wp2_with (go_at_call 9; refine (HA.out _ b7).mono ?_; rintro e w' ⟨rfl, b'⟩)
            go_ret
            exact ⟨rfl, b'⟩
  · go_wp2_with (go_at_call 9; refine (HA.out _ (by assumption)).mono ?_; rintro e w' ⟨rfl, b'⟩)
    go_ret
    exact ⟨rfl, b'⟩
end Go.Proofs.YthjlhbbhdliffaaDoor
