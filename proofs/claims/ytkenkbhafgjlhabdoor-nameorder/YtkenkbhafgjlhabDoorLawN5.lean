/-
  Walk of layer 3's statement NameOrder.
-/
import Derived.Test.YtkenkbhafgjlhabDoorAwkN
namespace Go.Proofs.YtkenkbhafgjlhabDoor
open Go.RowKit

namespace Nam
theorem less_self (g n : Int) : less g n g n = false := by simp [less]
theorem less_asym {g n g' n' : Int} (h : less g n g' n' = true) : less g' n' g n = false := by
  unfold less at *
  by_cases e : g = g'
  · subst e; rw [if_pos rfl] at *; have := of_decide_eq_true h; exact decide_eq_false (by omega)
  · rw [if_neg e] at h; rw [if_neg (fun x => e x.symm)]; have := of_decide_eq_true h; exact decide_eq_false (by omega)
theorem less_total {g n g' n' : Int} (h : less g n g' n' = false) (hne : ¬ (g = g' ∧ n = n')) : less g' n' g n = true := by
  unfold less at *
  by_cases e : g = g'
  · subst e; rw [if_pos rfl] at *; have := of_decide_eq_false h; exact decide_eq_true (by have : n ≠ n' := fun x => hne ⟨rfl, x⟩; omega)
  · rw [if_neg e] at h; rw [if_neg (fun x => e x.symm)]; have := of_decide_eq_false h; exact decide_eq_true (by omega)
theorem less_trans {g n g' n' g2 n2 : Int} (h : less g n g' n' = true) (h' : less g' n' g2 n2 = true) : less g n g2 n2 = true := by
  unfold less at *
  by_cases e : g = g'
  · subst e
    rw [if_pos rfl] at h
    by_cases e2 : g = g2
    · subst e2; rw [if_pos rfl] at *; have a := of_decide_eq_true h; have b := of_decide_eq_true h'; exact decide_eq_true (by omega)
    · rw [if_neg e2] at *; exact h'
  · rw [if_neg e] at h
    have a := of_decide_eq_true h
    by_cases e2 : g' = g2
    · subst e2; rw [if_neg e]; exact h
    · rw [if_neg e2] at h'; have b := of_decide_eq_true h'
      rw [if_neg (by omega)]; exact decide_eq_true (by omega)
theorem less_ne {g n g' n' : Int} (h : less g n g' n' = true) : ¬ (g = g' ∧ n = n') := by
  rintro ⟨rfl, rfl⟩; rw [less_self] at h; cases h
end Nam
/-- Cells of an early world, behind a call of a later one. -/
theorem bcell_in {W w1 w2 : World} (c : Below W.heap.size W w1) (hb : Below w1.heap.size w1 w2) : (∀ b o, b < W.heap.size → w2.cell? ⟨b, o, none⟩ = W.cell? ⟨b, o, none⟩) ∧ (∀ b o, b < W.heap.size → w2.frozen? ⟨b, o, none⟩ = W.frozen? ⟨b, o, none⟩) :=
  bcell (c.trans (hb.mono c.size))

set_option maxRecDepth 100000 in
set_option maxHeartbeats 2000000 in
theorem order_walk3 (ag : Int) (_ag0 : -9223372036854775808 ≤ ag) (_ag1 : ag ≤ 9223372036854775807) (an : Int) (_an0 : -9223372036854775808 ≤ an) (_an1 : an ≤ 9223372036854775807) (bg : Int) (_bg0 : -9223372036854775808 ≤ bg) (_bg1 : bg ≤ 9223372036854775807) (bn : Int) (_bn0 : -9223372036854775808 ≤ bn) (_bn1 : bn ≤ 9223372036854775807) (cg : Int) (_cg0 : -9223372036854775808 ≤ cg) (_cg1 : cg ≤ 9223372036854775807) (cn : Int) (_cn0 : -9223372036854775808 ≤ cn) (_cn1 : cn ≤ 9223372036854775807) (w : World) (htab : Lib.TabIs Tryd.prog w "internal/strconv.uint64pow10" .u64 Lib.pow10Tab) :
    Calls Tryd.prog 3 #[.agg #[.int .i64 ag, .int .i64 an], .agg #[.int .i64 bg, .int .i64 bn], .agg #[.int .i64 cg, .int .i64 cn]] w fun e w' => e = .returned (.bool true) ∧ Below w.heap.size w w' := by
  have b0 := (below_alloc2 w (.cells #[.int .i64 ag, .int .i64 an] 23) (.cells #[.int .i64 bg, .int .i64 bn] 23)).alloc (below_alloc2 w (.cells #[.int .i64 ag, .int .i64 an] 23) (.cells #[.int .i64 bg, .int .i64 bn] 23)).size (.cells #[.int .i64 cg, .int .i64 cn] 23)
  have c : Below (((w.alloc (.cells #[.int .i64 ag, .int .i64 an] 23)).alloc (.cells #[.int .i64 bg, .int .i64 bn] 23)).alloc (.cells #[.int .i64 cg, .int .i64 cn] 23)).heap.size (((w.alloc (.cells #[.int .i64 ag, .int .i64 an] 23)).alloc (.cells #[.int .i64 bg, .int .i64 bn] 23)).alloc (.cells #[.int .i64 cg, .int .i64 cn] 23)) (((w.alloc (.cells #[.int .i64 ag, .int .i64 an] 23)).alloc (.cells #[.int .i64 bg, .int .i64 bn] 23)).alloc (.cells #[.int .i64 cg, .int .i64 cn] 23)) := Below.refl _ _
  have HA : Hid (∀ W, Below w.heap.size w W → Calls Tryd.prog 5 #[] W fun e w' => e = .returned (.bool true) ∧ Below W.heap.size W w') := fun W hW => awake_any W (tab_below htab hW)
  have LESS : Hid (∀ (x y x' y' : Int) W, Calls Tryd.prog 4 #[.agg #[.int .i64 x, .int .i64 y], .agg #[.int .i64 x', .int .i64 y']] W fun e w' => e = .returned (.bool (Nam.less x y x' y')) ∧ Below W.heap.size W w') := fun x y x' y' W => less_any x y x' y' W
  have haa := Nam.less_self ag an
  clear htab
  cases hab : Nam.less ag an bg bn with
  | false =>
    by_cases he : ag = bg ∧ an = bn
    · obtain ⟨rfl, rfl⟩ := he
      clear hab
      go_enter Tryd.func3, Tryd.ntmps3
      go_wp2_with (go_at_call 4; refine (LESS.out _ _ _ _ _).mono ?_; rintro e w1 ⟨rfl, b⟩; (try clear hc hf); obtain ⟨hc, hf⟩ := bcell_in c b; have c := c.trans (b.mono c.size); clear b)
      have B := b0.trans (c.mono b0.size)
      go_wp2_with (go_at_call 5; refine (HA.out _ B).mono ?_; rintro e wz ⟨rfl, bz⟩)
      go_ret
      exact ⟨rfl, B.trans (bz.mono B.size)⟩
    · have hba := Nam.less_total hab he
      have hd : (ag == bg) = false ∨ (ag = bg ∧ (an == bn) = false) := by
        by_cases e : ag = bg
        · right; exact ⟨e, by rw [beq_eq_false_iff_ne]; exact fun x => he ⟨e, x⟩⟩
        · left; rw [beq_eq_false_iff_ne]; exact e
      clear he
      rcases hd with hd | ⟨rfl, hd⟩
      all_goals
        go_enter Tryd.func3, Tryd.ntmps3
        go_wp2_with (go_at_call 4; refine (LESS.out _ _ _ _ _).mono ?_; rintro e w1 ⟨rfl, b⟩; (try clear hc hf); obtain ⟨hc, hf⟩ := bcell_in c b; have c := c.trans (b.mono c.size); clear b)
        have B := b0.trans (c.mono b0.size)
        go_wp2_with (go_at_call 5; refine (HA.out _ B).mono ?_; rintro e wz ⟨rfl, bz⟩)
        go_ret
        exact ⟨rfl, B.trans (bz.mono B.size)⟩
  | true =>
    have hba := Nam.less_asym hab
    have he := Nam.less_ne hab
    have hd : (ag == bg) = false ∨ (ag = bg ∧ (an == bn) = false) := by
      by_cases e : ag = bg
      · right; exact ⟨e, by rw [beq_eq_false_iff_ne]; exact fun x => he ⟨e, x⟩⟩
      · left; rw [beq_eq_false_iff_ne]; exact e
    clear he
    cases hbc : Nam.less bg bn cg cn with
    | false =>
      rcases hd with hd | ⟨rfl, hd⟩
      all_goals
        go_enter Tryd.func3, Tryd.ntmps3
        go_wp2_with (go_at_call 4; refine (LESS.out _ _ _ _ _).mono ?_; rintro e w1 ⟨rfl, b⟩; (try clear hc hf); obtain ⟨hc, hf⟩ := bcell_in c b; have c := c.trans (b.mono c.size); clear b)
        have B := b0.trans (c.mono b0.size)
        go_wp2_with (go_at_call 5; refine (HA.out _ B).mono ?_; rintro e wz ⟨rfl, bz⟩)
        go_ret
        exact ⟨rfl, B.trans (bz.mono B.size)⟩
    | true =>
      have hac := Nam.less_trans hab hbc
      rcases hd with hd | ⟨rfl, hd⟩
      all_goals
        go_enter Tryd.func3, Tryd.ntmps3
        go_wp2_with (go_at_call 4; refine (LESS.out _ _ _ _ _).mono ?_; rintro e w1 ⟨rfl, b⟩; (try clear hc hf); obtain ⟨hc, hf⟩ := bcell_in c b; have c := c.trans (b.mono c.size); clear b)
        have B := b0.trans (c.mono b0.size)
        go_wp2_with (go_at_call 5; refine (HA.out _ B).mono ?_; rintro e wz ⟨rfl, bz⟩)
        go_ret
        exact ⟨rfl, B.trans (bz.mono B.size)⟩
end Go.Proofs.YtkenkbhafgjlhabDoor
