/-
  Layer 7: the document's mark.
-/
import Derived.Test.YtalleocmnnnchaaLn28
namespace Go.Proofs.Ytalleocmnnnchaa
open Go.RowKit

theorem IRow.take {W : World} {a : Option Addr} {l : List Int} (h : IRow W a l) (k : Nat) : IRow W a (l.take k) := ⟨h.1.take k, h.2⟩
theorem IRow.drop {W : World} {b o : Nat} {l : List Int} (h : IRow W (some ⟨b, o, none⟩) l) (k : Nat) : IRow W (some ⟨b, o + k, none⟩) (l.drop k) := by
  obtain ⟨C, hk⟩ := h.2 b o rfl
  refine IRow.of hk fun j hj => ?_
  rw [List.length_drop] at hj
  rw [List.getElem_drop, Nat.add_assoc]
  exact h.cell (by omega)

set_option maxHeartbeats 2000000 in
set_option maxRecDepth 100000 in
theorem rmark_any (a : Option Addr) (c : Nat) (l : List Int) (q : Int) (w : World) (hl : l.length ≤ 1000000000) (hup : Ln.Up l) (hc : l.length ≤ c) (hrow : IRow w a l) :
    Calls Try.prog 46 #[.slice a l.length c, .int .i64 q] w fun e w' => IPost w (Ln.mark l q) e w' := by
  unfold IPost
  obtain ⟨M, hM⟩ : ∃ M, M = (Ln.mark l q).length := ⟨_, rfl⟩
  rw [← hM]
  replace hM := Rg.hid hM
  obtain ⟨N, hN⟩ : ∃ N, N = l.length := ⟨_, rfl⟩
  rw [← hN] at hl hc ⊢
  replace hN := Rg.hid hN
  replace hup := Rg.hid hup
  replace hrow := Rg.hid hrow
  go_enter Try.func46, Try.ntmps46
  go_wp2
  go_loopw [5] (fun vi wr => ∃ (k : Nat), k ≤ N ∧ vi = .int .i64 k ∧ Hid (∀ x ∈ l.take k, x < q) ∧ w = wr) (fun vi _ => N - (intOf vi).toNat)
  case atStart => exact ⟨0, Nat.zero_le _, rfl, (fun x hx => by simp at hx), rfl⟩
  case round =>
    obtain ⟨k, hkN, rfl, hlow, rfl⟩ := hrel
    by_cases hlt0 : k < N
    · have hlt : k < l.length := by rw [← hN.out]; exact hlt0
      obtain ⟨b, o, rfl, -, -⟩ : ∃ b o, a = some ⟨b, o, none⟩ ∧ b < w.heap.size ∧ Rg.At w b o (intE.flat l) := by
        rcases hrow.out.1 with ⟨h, h'⟩ | h
        · rw [h'] at hlt; simp at hlt
        · exact h
      have c1 : w.cell? ⟨b, o + k, none⟩ = some (.int .i64 l[k]) := hrow.out.cell hlt
      have hz0 : (0 : Int) ≤ (k : Int) := by omega
      have hz1 : (k : Int) < (N : Int) := by omega
      have d0 : decide ((k : Int) < (N : Int)) = true := by simp only [decide_eq_true_eq]; exact hz1
      by_cases ha : l[k] < q
      · have d1 : decide (l[k] < q) = true := by simp only [decide_eq_true_eq]; exact ha
        have hs2 : Hid (∀ x ∈ l.take (k + 1), x < q) := fun x hx => by
          rw [List.take_succ_eq_append_getElem hlt] at hx
          rcases List.mem_append.1 hx with h' | h'
          · exact hlow.out x h'
          · rw [List.mem_singleton.1 h']; exact ha
        clear hlow ha
        generalize l[k] = x at *
        go_wp2
        go_roundw
        case rel => exact ⟨k + 1, by omega, by go_num, hs2, (by first | trivial | rfl)⟩
        case measure => simp [intOf]; omega
      · have d1 : decide (l[k] < q) = false := by simp only [decide_eq_false_iff_not]; exact ha
        by_cases he : l[k] = q
        · have d2 : (l[k] == q) = true := by simp [he]
          have hm := Ln.mark_has hup.out q k hlt he
          have hMN : Hid (M = N) := by show M = N; rw [hM.out, hm, hN.out]
          have hr2 : Hid (IRow w (some ⟨b, o, none⟩) (Ln.mark l q)) := by show IRow _ _ _; rw [hm]; exact hrow.out
          clear he ha hm hlow
          generalize l[k] = x at *
          go_wp2
          go_ret
          exact ⟨some ⟨b, o, none⟩, c, by rw [hMN.out]; rfl, hr2.out, by rw [hMN.out]; exact hc, Below.refl _ _⟩
        · have d2 : (l[k] == q) = false := by simp [he]
          have hput : Hid ((l.take k ++ [q]) ++ l.drop k = Ln.mark l q) := Ln.mark_puts hup.out q k (by omega) hlow.out (fun _ => by omega)
          clear he ha hlow
          generalize l[k] = x at *
          go_upto_region 6 with fail
          clear c1
          have hs1 : (k : Int) ≤ (c : Int) := by omega
          have hs2 : (k : Int) ≤ (N : Int) := by omega
          have hs3 : (N : Int) ≤ (c : Int) := by omega
          have hs4 : ¬ c = k := by omega
          have hs5 : ¬ k = c := by omega
          have hs6 : ¬ c - k = 0 := by omega
          have HA1 : Hid (∀ W g0, Below w.heap.size w W → Rg.Bk g0 [] 3 W → w.heap.size ≤ g0 → ∃ v' W', (Builtin.append_ #[25, 25] 25 #[.slice (some ⟨g0, 0, none⟩) 0 0, .slice (some ⟨b, o, none⟩) k c]).run Try.prog W = .ok v' W' ∧ ∃ g cap rest, v' = .slice (some ⟨g, 0, none⟩) k cap ∧ intE.Own w.heap.size W' g cap (l.take k) rest ∧ Below w.heap.size w W' ∧ (∀ j, j < W.heap.size → j ≠ g0 → W'.heap[j]? = W.heap[j]?)) := fun W g0 hW hg hg0 => by
            have hO : intE.Own w.heap.size W g0 0 [] [] := ⟨hg, hg0, Nat.le_refl _, Nat.zero_le _, Nat.le_refl _⟩
            have e1 : (l.take k).length = k := by rw [List.length_take, ← hN.out]; omega
            obtain ⟨g', cap', rest', W', h1, h2, h3, h4⟩ := app_irow hO hW.size (ca := c) ((hrow.out.take k).below hW) (by rw [e1]; simp <;> omega)
            rw [e1, List.length_nil, Nat.zero_add] at h1
            rw [List.nil_append] at h2
            exact ⟨_, W', h1, g', cap', rest', rfl, h2, hW.trans h3, h4⟩
          have HA2 : Hid (∀ W g cap rest ad, Below w.heap.size w W → intE.Own w.heap.size W g cap (l.take k) rest → Rg.Bk ad [.int .i64 q] 3 W → ∃ v' W', (Builtin.append_ #[25, 25] 25 #[.slice (some ⟨g, 0, none⟩) k cap, .slice (some ⟨ad, 0, none⟩) 1 1]).run Try.prog W = .ok v' W' ∧ ∃ g' cap' rest', v' = .slice (some ⟨g', 0, none⟩) (k + 1) cap' ∧ intE.Own w.heap.size W' g' cap' (l.take k ++ [q]) rest' ∧ Below w.heap.size w W') := fun W g cap rest ad hW ho hk => by
            have e1 : (l.take k).length = k := by rw [List.length_take, ← hN.out]; omega
            have hr : IRow W (some ⟨ad, 0, none⟩) [q] := IRow.of hk (fun j hj => by simp at hj; subst hj; exact hk.cell 0)
            obtain ⟨g', cap', rest', W', h1, h2, h3, -⟩ := app_irow ho hW.size (ca := 1) hr (by rw [e1]; simp <;> omega)
            rw [e1] at h1
            exact ⟨_, W', h1, g', cap', rest', rfl, h2, hW.trans h3⟩
          have HA3 : Hid (∀ W g cap rest, Below w.heap.size w W → intE.Own w.heap.size W g cap (l.take k ++ [q]) rest → ∃ v' W', (Builtin.append_ #[25, 25] 25 #[.slice (some ⟨g, 0, none⟩) (k + 1) cap, .slice (some ⟨b, o + k, none⟩) (N - k) (c - k)]).run Try.prog W = .ok v' W' ∧ ∃ g' cap', v' = .slice (some ⟨g', 0, none⟩) M cap' ∧ IRow W' (some ⟨g', 0, none⟩) (Ln.mark l q) ∧ M ≤ cap' ∧ Below w.heap.size w W') := fun W g cap rest hW ho => by
            have e1 : (l.take k ++ [q]).length = k + 1 := by rw [List.length_append, List.length_take, ← hN.out, List.length_singleton]; omega
            have e2 : (l.drop k).length = N - k := by have := hN.out; rw [List.length_drop]; omega
            obtain ⟨g', cap', rest', W', h1, h2, h3, -⟩ := app_irow ho hW.size (ca := c - k) ((hrow.out.drop k).below hW) (by rw [e1, e2]; omega)
            have e3 := hput.out
            rw [e1, e2] at h1
            have e4 : k + 1 + (N - k) = M := by rw [hM.out, ← e3, List.length_append, e1, e2]
            rw [e3] at h2
            have e5 := h2.le
            rw [← hM.out] at e5
            exact ⟨_, W', h1, g', cap', congrArg (fun z => Value.slice (some ⟨g', 0, none⟩) z cap') e4, Own.irow h2, e5, hW.trans h3⟩
          clear hput
          go_cut [4] (fun s wx => ∃ g' cap', s = .slice (some ⟨g', 0, none⟩) M cap' ∧ IRow wx (some ⟨g', 0, none⟩) (Ln.mark l q) ∧ M ≤ cap' ∧ Below w.heap.size w wx)
          case first =>
            go_region_held3 (fun _ => True) (go_keep) (first
              | (refine Rg.step_append_ex (by rfl) (.tmp 33) (.tmp 36) 25 (by rfl) _ _ (by rfl) (by rfl) _ (HA1.out _ _ ?_ ?_ ?_) ?_; (first | exact (Rg.al1 _ _).drew | exact (Rg.al2 _ _ _).drew | exact Rg.al1 _ _ | exact Rg.al2 _ _ _); (first | exact (Rg.Bk.new (by simp)).drew | exact ((Rg.Bk.new (by simp)).old _).drew | exact Rg.Bk.new (by simp) | exact (Rg.Bk.new (by simp)).old _); (first | exact Nat.le_refl _ | (simp <;> omega)); rintro v' W1 ⟨g, cap, rest, rfl, hOwn, bA, hsame⟩)
              | (refine Rg.step_append_ex (by rfl) (.tmp 37) (.tmp 39) 25 (by rfl) _ _ (by rfl) (by rfl) _ (HA2.out _ _ _ rest _ ?_ ?_ ?_) ?_; (first | exact bA | exact Rg.chain bA (Rg.al1 _ _)); (first | exact hOwn | exact hOwn.below (Rg.al1 _ _)); (first | exact Rg.Bk.new rfl | exact Rg.Bk.same ((Rg.Bk.new (by simp)).drew) (hsame _ (by simp <;> omega) (by simp <;> omega)) | exact Rg.Bk.same (((Rg.Bk.new (by simp)).old _).drew) (hsame _ (by simp <;> omega) (by simp <;> omega))); rintro v' W2 ⟨g', cap', rest', rfl, hOwn2, bB⟩)
              | (refine Rg.step_append_ex (by rfl) (.tmp 40) (.tmp 43) 25 (by rfl) _ _ (by rfl) (by rfl) _ (HA3.out _ _ _ rest' bB hOwn2) ?_; rintro v' W3 ⟨g'', cap'', rfl, hI, hcap, bC⟩))
            all_goals (go_wp2_with fail; go_meet; exact ⟨_, _, rfl, hI, hcap, bC⟩)
          case rest =>
            obtain ⟨g', cap', rfl, hI, hcap, bC⟩ := hcut
            clear HA1 HA2 HA3
            go_wp2
            go_ret
            exact ⟨_, _, rfl, hI, hcap, bC⟩
    · obtain rfl : k = N := by omega
      have hput : Hid ((l.take k ++ [q]) ++ l.drop k = Ln.mark l q) := Ln.mark_puts hup.out q k (by rw [← hN.out]; exact Nat.le_refl _) hlow.out (fun h => by rw [← hN.out] at h; omega)
      clear hlow hkN hlt0
      have hz0 : (0 : Int) ≤ (k : Int) := by omega
      have hs1 : (k : Int) ≤ (c : Int) := by omega
      rcases hrow.out.1 with ⟨rfl, h0⟩ | ⟨b, o, rfl, -, -⟩
      · have hk0 : k = 0 := by rw [hN.out, h0]; rfl
        subst hk0
        clear hl h0
        go_upto_region 6 with fail
        have HA1 : Hid (∀ W g0, Below w.heap.size w W → Rg.Bk g0 [] 3 W → w.heap.size ≤ g0 → ∃ v' W', (Builtin.append_ #[25, 25] 25 #[.slice (some ⟨g0, 0, none⟩) 0 0, .slice none 0 c]).run Try.prog W = .ok v' W' ∧ ∃ g cap rest, v' = .slice (some ⟨g, 0, none⟩) 0 cap ∧ intE.Own w.heap.size W' g cap (l.take 0) rest ∧ Below w.heap.size w W' ∧ (∀ j, j < W.heap.size → j ≠ g0 → W'.heap[j]? = W.heap[j]?)) := fun W g0 hW hg hg0 => by
          have hO : intE.Own w.heap.size W g0 0 [] [] := ⟨hg, hg0, Nat.le_refl _, Nat.zero_le _, Nat.le_refl _⟩
          have e1 : (l.take 0).length = 0 := by rw [List.length_take, ← hN.out]; omega
          obtain ⟨g', cap', rest', W', h1, h2, h3, h4⟩ := app_irow hO hW.size (ca := c) ((hrow.out.take 0).below hW) (by rw [e1]; simp <;> omega)
          rw [e1, List.length_nil, Nat.zero_add] at h1
          rw [List.nil_append] at h2
          exact ⟨_, W', h1, g', cap', rest', rfl, h2, hW.trans h3, h4⟩
        have HA2 : Hid (∀ W g cap rest ad, Below w.heap.size w W → intE.Own w.heap.size W g cap (l.take 0) rest → Rg.Bk ad [.int .i64 q] 3 W → ∃ v' W', (Builtin.append_ #[25, 25] 25 #[.slice (some ⟨g, 0, none⟩) 0 cap, .slice (some ⟨ad, 0, none⟩) 1 1]).run Try.prog W = .ok v' W' ∧ ∃ g' cap' rest', v' = .slice (some ⟨g', 0, none⟩) (0 + 1) cap' ∧ intE.Own w.heap.size W' g' cap' (l.take 0 ++ [q]) rest' ∧ Below w.heap.size w W') := fun W g cap rest ad hW ho hk => by
          have e1 : (l.take 0).length = 0 := by rw [List.length_take, ← hN.out]; omega
          have hr : IRow W (some ⟨ad, 0, none⟩) [q] := IRow.of hk (fun j hj => by simp at hj; subst hj; exact hk.cell 0)
          obtain ⟨g', cap', rest', W', h1, h2, h3, -⟩ := app_irow ho hW.size (ca := 1) hr (by rw [e1]; simp <;> omega)
          rw [e1] at h1
          exact ⟨_, W', h1, g', cap', rest', rfl, h2, hW.trans h3⟩
        have HA3 : Hid (∀ W g cap rest, Below w.heap.size w W → intE.Own w.heap.size W g cap (l.take 0 ++ [q]) rest → ∃ v' W', (Builtin.append_ #[25, 25] 25 #[.slice (some ⟨g, 0, none⟩) (0 + 1) cap, .slice none 0 c]).run Try.prog W = .ok v' W' ∧ ∃ g' cap', v' = .slice (some ⟨g', 0, none⟩) M cap' ∧ IRow W' (some ⟨g', 0, none⟩) (Ln.mark l q) ∧ M ≤ cap' ∧ Below w.heap.size w W') := fun W g cap rest hW ho => by
          have e1 : (l.take 0 ++ [q]).length = 0 + 1 := by rw [List.length_append, List.length_take, ← hN.out, List.length_singleton]; omega
          have e2 : (l.drop 0).length = 0 := by have := hN.out; rw [List.length_drop]; omega
          obtain ⟨g', cap', rest', W', h1, h2, h3, -⟩ := app_irow ho hW.size (ca := c) ((show IRow w none (l.drop 0) by rw [List.drop_zero]; exact hrow.out).below hW) (by rw [e1, e2]; omega)
          have e3 := hput.out
          rw [e1, e2] at h1
          have e4 : 0 + 1 + (0) = M := by rw [hM.out, ← e3, List.length_append, e1, e2]
          rw [e3] at h2
          have e5 := h2.le
          rw [← hM.out] at e5
          exact ⟨_, W', h1, g', cap', congrArg (fun z => Value.slice (some ⟨g', 0, none⟩) z cap') e4, Own.irow h2, e5, hW.trans h3⟩
        clear hput
        go_cut [4] (fun s wx => ∃ g' cap', s = .slice (some ⟨g', 0, none⟩) M cap' ∧ IRow wx (some ⟨g', 0, none⟩) (Ln.mark l q) ∧ M ≤ cap' ∧ Below w.heap.size w wx)
        case first =>
          go_region_held3 (fun _ => True) (go_keep) (first
            | (refine Rg.step_append_ex (by rfl) (.tmp 33) (.tmp 36) 25 (by rfl) _ _ (by rfl) (by rfl) _ (HA1.out _ _ ?_ ?_ ?_) ?_; (first | exact (Rg.al1 _ _).drew | exact (Rg.al2 _ _ _).drew | exact Rg.al1 _ _ | exact Rg.al2 _ _ _); (first | exact (Rg.Bk.new (by simp)).drew | exact ((Rg.Bk.new (by simp)).old _).drew | exact Rg.Bk.new (by simp) | exact (Rg.Bk.new (by simp)).old _); (first | exact Nat.le_refl _ | (simp <;> omega)); rintro v' W1 ⟨g, cap, rest, rfl, hOwn, bA, hsame⟩)
            | (refine Rg.step_append_ex (by rfl) (.tmp 37) (.tmp 39) 25 (by rfl) _ _ (by rfl) (by rfl) _ (HA2.out _ _ _ rest _ ?_ ?_ ?_) ?_; (first | exact bA | exact Rg.chain bA (Rg.al1 _ _)); (first | exact hOwn | exact hOwn.below (Rg.al1 _ _)); (first | exact Rg.Bk.new rfl | exact Rg.Bk.same ((Rg.Bk.new (by simp)).drew) (hsame _ (by simp <;> omega) (by simp <;> omega)) | exact Rg.Bk.same (((Rg.Bk.new (by simp)).old _).drew) (hsame _ (by simp <;> omega) (by simp <;> omega))); rintro v' W2 ⟨g', cap', rest', rfl, hOwn2, bB⟩)
            | (refine Rg.step_append_ex (by rfl) (.tmp 40) (.tmp 43) 25 (by rfl) _ _ (by rfl) (by rfl) _ (HA3.out _ _ _ rest' bB hOwn2) ?_; rintro v' W3 ⟨g'', cap'', rfl, hI, hcap, bC⟩))
          all_goals (go_wp2_with fail; go_meet; exact ⟨_, _, rfl, hI, hcap, bC⟩)
        case rest =>
          obtain ⟨g', cap', rfl, hI, hcap, bC⟩ := hcut
          clear HA1 HA2 HA3
          go_wp2
          go_ret
          exact ⟨_, _, rfl, hI, hcap, bC⟩
      · by_cases hck : c = k
        · subst hck
          go_upto_region 6 with fail
          have HA1 : Hid (∀ W g0, Below w.heap.size w W → Rg.Bk g0 [] 3 W → w.heap.size ≤ g0 → ∃ v' W', (Builtin.append_ #[25, 25] 25 #[.slice (some ⟨g0, 0, none⟩) 0 0, .slice (some ⟨b, o, none⟩) c c]).run Try.prog W = .ok v' W' ∧ ∃ g cap rest, v' = .slice (some ⟨g, 0, none⟩) c cap ∧ intE.Own w.heap.size W' g cap (l.take c) rest ∧ Below w.heap.size w W' ∧ (∀ j, j < W.heap.size → j ≠ g0 → W'.heap[j]? = W.heap[j]?)) := fun W g0 hW hg hg0 => by
            have hO : intE.Own w.heap.size W g0 0 [] [] := ⟨hg, hg0, Nat.le_refl _, Nat.zero_le _, Nat.le_refl _⟩
            have e1 : (l.take c).length = c := by rw [List.length_take, ← hN.out]; omega
            obtain ⟨g', cap', rest', W', h1, h2, h3, h4⟩ := app_irow hO hW.size (ca := c) ((hrow.out.take c).below hW) (by rw [e1]; simp <;> omega)
            rw [e1, List.length_nil, Nat.zero_add] at h1
            rw [List.nil_append] at h2
            exact ⟨_, W', h1, g', cap', rest', rfl, h2, hW.trans h3, h4⟩
          have HA2 : Hid (∀ W g cap rest ad, Below w.heap.size w W → intE.Own w.heap.size W g cap (l.take c) rest → Rg.Bk ad [.int .i64 q] 3 W → ∃ v' W', (Builtin.append_ #[25, 25] 25 #[.slice (some ⟨g, 0, none⟩) c cap, .slice (some ⟨ad, 0, none⟩) 1 1]).run Try.prog W = .ok v' W' ∧ ∃ g' cap' rest', v' = .slice (some ⟨g', 0, none⟩) (c + 1) cap' ∧ intE.Own w.heap.size W' g' cap' (l.take c ++ [q]) rest' ∧ Below w.heap.size w W') := fun W g cap rest ad hW ho hk => by
            have e1 : (l.take c).length = c := by rw [List.length_take, ← hN.out]; omega
            have hr : IRow W (some ⟨ad, 0, none⟩) [q] := IRow.of hk (fun j hj => by simp at hj; subst hj; exact hk.cell 0)
            obtain ⟨g', cap', rest', W', h1, h2, h3, -⟩ := app_irow ho hW.size (ca := 1) hr (by rw [e1]; simp <;> omega)
            rw [e1] at h1
            exact ⟨_, W', h1, g', cap', rest', rfl, h2, hW.trans h3⟩
          have HA3 : Hid (∀ W g cap rest, Below w.heap.size w W → intE.Own w.heap.size W g cap (l.take c ++ [q]) rest → ∃ v' W', (Builtin.append_ #[25, 25] 25 #[.slice (some ⟨g, 0, none⟩) (c + 1) cap, .slice (some ⟨b, o, none⟩) 0 0]).run Try.prog W = .ok v' W' ∧ ∃ g' cap', v' = .slice (some ⟨g', 0, none⟩) M cap' ∧ IRow W' (some ⟨g', 0, none⟩) (Ln.mark l q) ∧ M ≤ cap' ∧ Below w.heap.size w W') := fun W g cap rest hW ho => by
            have e1 : (l.take c ++ [q]).length = c + 1 := by rw [List.length_append, List.length_take, ← hN.out, List.length_singleton]; omega
            have e2 : (l.drop c).length = 0 := by have := hN.out; rw [List.length_drop]; omega
            obtain ⟨g', cap', rest', W', h1, h2, h3, -⟩ := app_irow ho hW.size (ca := 0) ((show IRow w (some ⟨b, o, none⟩) (l.drop c) by rw [List.drop_of_length_le (by rw [← hN.out]; exact Nat.le_refl _)]; exact hrow.out.take 0).below hW) (by rw [e1, e2]; omega)
            have e3 := hput.out
            rw [e1, e2] at h1
            have e4 : c + 1 + (0) = M := by rw [hM.out, ← e3, List.length_append, e1, e2]
            rw [e3] at h2
            have e5 := h2.le
            rw [← hM.out] at e5
            exact ⟨_, W', h1, g', cap', congrArg (fun z => Value.slice (some ⟨g', 0, none⟩) z cap') e4, Own.irow h2, e5, hW.trans h3⟩
          clear hput
          go_cut [4] (fun s wx => ∃ g' cap', s = .slice (some ⟨g', 0, none⟩) M cap' ∧ IRow wx (some ⟨g', 0, none⟩) (Ln.mark l q) ∧ M ≤ cap' ∧ Below w.heap.size w wx)
          case first =>
            go_region_held3 (fun _ => True) (go_keep) (first
              | (refine Rg.step_append_ex (by rfl) (.tmp 33) (.tmp 36) 25 (by rfl) _ _ (by rfl) (by rfl) _ (HA1.out _ _ ?_ ?_ ?_) ?_; (first | exact (Rg.al1 _ _).drew | exact (Rg.al2 _ _ _).drew | exact Rg.al1 _ _ | exact Rg.al2 _ _ _); (first | exact (Rg.Bk.new (by simp)).drew | exact ((Rg.Bk.new (by simp)).old _).drew | exact Rg.Bk.new (by simp) | exact (Rg.Bk.new (by simp)).old _); (first | exact Nat.le_refl _ | (simp <;> omega)); rintro v' W1 ⟨g, cap, rest, rfl, hOwn, bA, hsame⟩)
              | (refine Rg.step_append_ex (by rfl) (.tmp 37) (.tmp 39) 25 (by rfl) _ _ (by rfl) (by rfl) _ (HA2.out _ _ _ rest _ ?_ ?_ ?_) ?_; (first | exact bA | exact Rg.chain bA (Rg.al1 _ _)); (first | exact hOwn | exact hOwn.below (Rg.al1 _ _)); (first | exact Rg.Bk.new rfl | exact Rg.Bk.same ((Rg.Bk.new (by simp)).drew) (hsame _ (by simp <;> omega) (by simp <;> omega)) | exact Rg.Bk.same (((Rg.Bk.new (by simp)).old _).drew) (hsame _ (by simp <;> omega) (by simp <;> omega))); rintro v' W2 ⟨g', cap', rest', rfl, hOwn2, bB⟩)
              | (refine Rg.step_append_ex (by rfl) (.tmp 40) (.tmp 43) 25 (by rfl) _ _ (by rfl) (by rfl) _ (HA3.out _ _ _ rest' bB hOwn2) ?_; rintro v' W3 ⟨g'', cap'', rfl, hI, hcap, bC⟩))
            all_goals (go_wp2_with fail; go_meet; exact ⟨_, _, rfl, hI, hcap, bC⟩)
          case rest =>
            obtain ⟨g', cap', rfl, hI, hcap, bC⟩ := hcut
            clear HA1 HA2 HA3
            go_wp2
            go_ret
            exact ⟨_, _, rfl, hI, hcap, bC⟩
        · have hs5 : ¬ k = c := by omega
          have hs6 : ¬ c - k = 0 := by omega
          go_upto_region 6 with fail
          have HA1 : Hid (∀ W g0, Below w.heap.size w W → Rg.Bk g0 [] 3 W → w.heap.size ≤ g0 → ∃ v' W', (Builtin.append_ #[25, 25] 25 #[.slice (some ⟨g0, 0, none⟩) 0 0, .slice (some ⟨b, o, none⟩) k c]).run Try.prog W = .ok v' W' ∧ ∃ g cap rest, v' = .slice (some ⟨g, 0, none⟩) k cap ∧ intE.Own w.heap.size W' g cap (l.take k) rest ∧ Below w.heap.size w W' ∧ (∀ j, j < W.heap.size → j ≠ g0 → W'.heap[j]? = W.heap[j]?)) := fun W g0 hW hg hg0 => by
            have hO : intE.Own w.heap.size W g0 0 [] [] := ⟨hg, hg0, Nat.le_refl _, Nat.zero_le _, Nat.le_refl _⟩
            have e1 : (l.take k).length = k := by rw [List.length_take, ← hN.out]; omega
            obtain ⟨g', cap', rest', W', h1, h2, h3, h4⟩ := app_irow hO hW.size (ca := c) ((hrow.out.take k).below hW) (by rw [e1]; simp <;> omega)
            rw [e1, List.length_nil, Nat.zero_add] at h1
            rw [List.nil_append] at h2
            exact ⟨_, W', h1, g', cap', rest', rfl, h2, hW.trans h3, h4⟩
          have HA2 : Hid (∀ W g cap rest ad, Below w.heap.size w W → intE.Own w.heap.size W g cap (l.take k) rest → Rg.Bk ad [.int .i64 q] 3 W → ∃ v' W', (Builtin.append_ #[25, 25] 25 #[.slice (some ⟨g, 0, none⟩) k cap, .slice (some ⟨ad, 0, none⟩) 1 1]).run Try.prog W = .ok v' W' ∧ ∃ g' cap' rest', v' = .slice (some ⟨g', 0, none⟩) (k + 1) cap' ∧ intE.Own w.heap.size W' g' cap' (l.take k ++ [q]) rest' ∧ Below w.heap.size w W') := fun W g cap rest ad hW ho hk => by
            have e1 : (l.take k).length = k := by rw [List.length_take, ← hN.out]; omega
            have hr : IRow W (some ⟨ad, 0, none⟩) [q] := IRow.of hk (fun j hj => by simp at hj; subst hj; exact hk.cell 0)
            obtain ⟨g', cap', rest', W', h1, h2, h3, -⟩ := app_irow ho hW.size (ca := 1) hr (by rw [e1]; simp <;> omega)
            rw [e1] at h1
            exact ⟨_, W', h1, g', cap', rest', rfl, h2, hW.trans h3⟩
          have HA3 : Hid (∀ W g cap rest, Below w.heap.size w W → intE.Own w.heap.size W g cap (l.take k ++ [q]) rest → ∃ v' W', (Builtin.append_ #[25, 25] 25 #[.slice (some ⟨g, 0, none⟩) (k + 1) cap, .slice (some ⟨b, o + k, none⟩) 0 (c - k)]).run Try.prog W = .ok v' W' ∧ ∃ g' cap', v' = .slice (some ⟨g', 0, none⟩) M cap' ∧ IRow W' (some ⟨g', 0, none⟩) (Ln.mark l q) ∧ M ≤ cap' ∧ Below w.heap.size w W') := fun W g cap rest hW ho => by
            have e1 : (l.take k ++ [q]).length = k + 1 := by rw [List.length_append, List.length_take, ← hN.out, List.length_singleton]; omega
            have e2 : (l.drop k).length = 0 := by have := hN.out; rw [List.length_drop]; omega
            obtain ⟨g', cap', rest', W', h1, h2, h3, -⟩ := app_irow ho hW.size (ca := c - k) ((hrow.out.drop k).below hW) (by rw [e1, e2]; omega)
            have e3 := hput.out
            rw [e1, e2] at h1
            have e4 : k + 1 + (0) = M := by rw [hM.out, ← e3, List.length_append, e1, e2]
            rw [e3] at h2
            have e5 := h2.le
            rw [← hM.out] at e5
            exact ⟨_, W', h1, g', cap', congrArg (fun z => Value.slice (some ⟨g', 0, none⟩) z cap') e4, Own.irow h2, e5, hW.trans h3⟩
          clear hput
          go_cut [4] (fun s wx => ∃ g' cap', s = .slice (some ⟨g', 0, none⟩) M cap' ∧ IRow wx (some ⟨g', 0, none⟩) (Ln.mark l q) ∧ M ≤ cap' ∧ Below w.heap.size w wx)
          case first =>
            go_region_held3 (fun _ => True) (go_keep) (first
              | (refine Rg.step_append_ex (by rfl) (.tmp 33) (.tmp 36) 25 (by rfl) _ _ (by rfl) (by rfl) _ (HA1.out _ _ ?_ ?_ ?_) ?_; (first | exact (Rg.al1 _ _).drew | exact (Rg.al2 _ _ _).drew | exact Rg.al1 _ _ | exact Rg.al2 _ _ _); (first | exact (Rg.Bk.new (by simp)).drew | exact ((Rg.Bk.new (by simp)).old _).drew | exact Rg.Bk.new (by simp) | exact (Rg.Bk.new (by simp)).old _); (first | exact Nat.le_refl _ | (simp <;> omega)); rintro v' W1 ⟨g, cap, rest, rfl, hOwn, bA, hsame⟩)
              | (refine Rg.step_append_ex (by rfl) (.tmp 37) (.tmp 39) 25 (by rfl) _ _ (by rfl) (by rfl) _ (HA2.out _ _ _ rest _ ?_ ?_ ?_) ?_; (first | exact bA | exact Rg.chain bA (Rg.al1 _ _)); (first | exact hOwn | exact hOwn.below (Rg.al1 _ _)); (first | exact Rg.Bk.new rfl | exact Rg.Bk.same ((Rg.Bk.new (by simp)).drew) (hsame _ (by simp <;> omega) (by simp <;> omega)) | exact Rg.Bk.same (((Rg.Bk.new (by simp)).old _).drew) (hsame _ (by simp <;> omega) (by simp <;> omega))); rintro v' W2 ⟨g', cap', rest', rfl, hOwn2, bB⟩)
              | (refine Rg.step_append_ex (by rfl) (.tmp 40) (.tmp 43) 25 (by rfl) _ _ (by rfl) (by rfl) _ (HA3.out _ _ _ rest' bB hOwn2) ?_; rintro v' W3 ⟨g'', cap'', rfl, hI, hcap, bC⟩))
            all_goals (go_wp2_with fail; go_meet; exact ⟨_, _, rfl, hI, hcap, bC⟩)
          case rest =>
            obtain ⟨g', cap', rfl, hI, hcap, bC⟩ := hcut
            clear HA1 HA2 HA3
            go_wp2
            go_ret
            exact ⟨_, _, rfl, hI, hcap, bC⟩
end Go.Proofs.Ytalleocmnnnchaa
