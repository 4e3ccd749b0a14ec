/-
  Chats (layer 8) in plain mathematics: how far a chat may be, whatever comes.
-/
import Derived.Test.YteepfifglafjmaaDoorCh30
import Derived.Test.YteepfifglafjmaaDoorMathE8
namespace Go.Proofs.YteepfifglafjmaaDoor
namespace Ch
theorem cut_leR (x sub : List UInt8) : (Lib.cut x sub).2.1.length ≤ x.length := by
  unfold Lib.cut
  split
  · simp
  · simp
/-- a chat by the steps l, of which at most s bytes are seen -/
structure Pi (l : List St) (s : Nat) (c : Co) : Prop where
  steps : c.steps = l
  step : 0 ≤ c.step
  want : 0 ≤ c.want ∧ c.want ≤ 6000
  wait : 0 ≤ c.wait ∧ c.wait ≤ 1001
  pat : c.pat ≤ 1000
  seen : c.seen.length ≤ s
/-- it is done, or at some step -/
def Pd (l : List St) (c : Co) : Prop := c.over = true ∨ c.failed = true ∨ (c.over = false ∧ c.failed = false ∧ (∃ k : Nat, c.step = k ∧ k < l.length) ∧ c.seen.length ≤ 300 ∧ c.wait ≤ 1000)
theorem run_pi (l : List St) (s : Nat) : ∀ (n : Nat) (c : Co) (out : List UInt8), Pi l s c → c.over = false → c.failed = false → c.wait ≤ 1000 → c.step ≤ l.length → (l.length : Int) - c.step < n → Pi l s (run n c out).1 ∧ Pd l (run n c out).1
  | 0, c, out, h, ho, hf, hw, hle, hn => by exfalso; omega
  | n + 1, c, out, h, ho, hf, hw, hle, hn => by
    unfold run
    by_cases h1 : 0 ≤ c.step ∧ c.step < (c.steps.length : Int)
    · rw [if_pos h1]
      have h1' := h1
      rw [h.steps] at h1'
      by_cases h2 : 0 ≤ c.want ∧ c.want < ((at_ c).wants.length : Int)
      · rw [if_pos h2]
        by_cases h3 : (Lib.cut c.seen (wanted c).data.toList).2.2 = true
        · rw [if_pos h3]
          refine run_pi l s n _ _ ⟨h.steps, ?_, ⟨Int.le_refl _, by show (0 : Int) ≤ 6000; decide⟩, ⟨Int.le_refl _, by show (0 : Int) ≤ 1001; decide⟩, h.pat, ?_⟩ ho hf (by show (0 : Int) ≤ 1000; decide) ?_ ?_
          · show 0 ≤ c.step + 1; omega
          · exact Nat.le_trans (cut_leR _ _) h.seen
          · show c.step + 1 ≤ _; omega
          · show (l.length : Int) - (c.step + 1) < n; omega
        · rw [if_neg h3]
          refine ⟨⟨h.steps, h.step, h.want, h.wait, h.pat, ?_⟩, .inr (.inr ⟨ho, hf, ?_, ?_, hw⟩)⟩
          · dsimp only
            have := h.seen
            rw [List.length_drop]; omega
          · exact ⟨c.step.toNat, by show c.step = _; omega, by omega⟩
          · dsimp only
            rw [List.length_drop]; omega
      · rw [if_neg h2]
        exact ⟨⟨h.steps, h.step, h.want, h.wait, h.pat, h.seen⟩, .inr (.inl rfl)⟩
    · rw [if_neg h1]
      exact ⟨⟨h.steps, h.step, h.want, h.wait, h.pat, h.seen⟩, .inl rfl⟩
theorem goOn_pi {l : List St} {s : Nat} {c : Co} (h : Pi l s c) (ho : c.over = false) (hf : c.failed = false) (hw : c.wait ≤ 1000) (hle : c.step ≤ l.length) : Pi l s (goOn c).1 ∧ Pd l (goOn c).1 := by
  unfold goOn
  exact run_pi l s _ c [] h ho hf hw hle (by have := h.step; rw [h.steps]; omega)
/-- what is asked of a chat between two calls -/
structure Pl (l : List St) (c : Co) : Prop where
  pi : Pi l 10000 c
  pd : Pd l c
theorem begin_pl (l : List St) (p : Int) : Pl l (begin_ l p).1 := by
  unfold begin_
  obtain ⟨h1, h2⟩ := goOn_pi (l := l) (s := 10000) (c := ⟨l, 0, 0, [], 0, min (max p 1) 1000, false, false⟩) ⟨rfl, Int.le_refl _, ⟨Int.le_refl _, by show (0 : Int) ≤ 6000; decide⟩, ⟨Int.le_refl _, by show (0 : Int) ≤ 1001; decide⟩, by show min (max p 1) 1000 ≤ 1000; omega, by simp⟩ rfl rfl (by show (0 : Int) ≤ 1000; decide) (by show (0 : Int) ≤ _; omega)
  exact ⟨h1, h2⟩
theorem feed_pl {l : List St} {c : Co} (h : Pl l c) (s : List UInt8) (hs : s.length ≤ 9000) : Pl l (feed c s).1 := by
  unfold feed
  by_cases hd : c.over = true ∨ c.failed = true
  · rw [if_pos hd]; exact h
  · rw [if_neg hd]
    rcases h.pd with h1 | h1 | ⟨ho, hf, ⟨k, hk, hkl⟩, hse, hw⟩
    · exact absurd (.inl h1) hd
    · exact absurd (.inr h1) hd
    · obtain ⟨h1, h2⟩ := goOn_pi (l := l) (s := 10000) (c := { c with seen := c.seen ++ s }) ⟨h.pi.steps, h.pi.step, h.pi.want, h.pi.wait, h.pi.pat, by show (c.seen ++ s).length ≤ 10000; rw [List.length_append]; omega⟩ ho hf hw (by show c.step ≤ _; omega)
      exact ⟨h1, h2⟩
theorem nudge_lt {c : Co} {s : ByteArray} (h : nudgeOf c = some s) : ∃ x ∈ c.steps, 0 ≤ c.want ∧ c.want < (x.nudge.length : Int) := by
  unfold nudgeOf at h
  split at h
  · rename_i h1
    split at h
    · rename_i h2
      have hk : c.step.toNat < c.steps.length := by omega
      have hat : at_ c = c.steps[c.step.toNat] := by
        unfold at_
        rw [List.getD_eq_getElem?_getD, List.getElem?_eq_getElem hk]
        rfl
      rw [hat] at h2
      exact ⟨_, List.getElem_mem hk, h2⟩
    · cases h
  · cases h
theorem tick_pl {l : List St} {c : Co} (hN : Near l) (h : Pl l c) : Pl l (tick c).1 := by
  unfold tick
  by_cases hd : c.over = true ∨ c.failed = true
  · rw [if_pos hd]; exact h
  · rw [if_neg hd]
    rcases h.pd with h1 | h1 | ⟨ho, hf, ⟨k, hk, hkl⟩, hse, hw⟩
    · exact absurd (.inl h1) hd
    · exact absurd (.inr h1) hd
    have hp := h.pi
    have hpp := hp.pat
    have hww := hp.wait
    by_cases hle : c.wait + 1 ≤ c.pat
    · rw [if_pos hle]
      exact ⟨⟨hp.steps, hp.step, hp.want, by show 0 ≤ c.wait + 1 ∧ c.wait + 1 ≤ 1001; omega, hp.pat, hp.seen⟩, .inr (.inr ⟨ho, hf, ⟨k, hk, hkl⟩, hse, by show c.wait + 1 ≤ 1000; omega⟩)⟩
    · rw [if_neg hle]
      cases hn : nudgeOf c with
      | none => exact ⟨⟨hp.steps, hp.step, hp.want, by show 0 ≤ c.wait + 1 ∧ c.wait + 1 ≤ 1001; omega, hp.pat, hp.seen⟩, .inr (.inl rfl)⟩
      | some z =>
        obtain ⟨x, hx, hx1, hx2⟩ := nudge_lt hn
        rw [hp.steps] at hx
        have := (hN.nudge x hx).1
        obtain ⟨h1, h2⟩ := goOn_pi (l := l) (s := 10000) (c := { c with want := c.want + 1, wait := 0 }) ⟨hp.steps, hp.step, by show 0 ≤ c.want + 1 ∧ c.want + 1 ≤ 6000; omega, ⟨Int.le_refl _, by show (0 : Int) ≤ 1001; decide⟩, hp.pat, hp.seen⟩ ho hf (by show (0 : Int) ≤ 1000; decide) (by show c.step ≤ _; omega)
        exact ⟨h1, h2⟩
end Ch
theorem pl_tok {l : List Ch.St} {c : Ch.Co} (hN : Ch.Near l) (h : Ch.Pl l c) : TOk c := by
  have hp := h.pi
  have hs := hp.steps
  refine ⟨⟨by rw [hs]; have := hN.len; omega, by have := hp.seen; omega, fun x hx => by rw [hs] at hx; have := hN.send x hx; omega, by have := hp.step; omega⟩, ⟨hp.wait.1, by have := hp.wait.2; omega⟩, ⟨by have := hp.want.1; omega, by have := hp.want.2; omega⟩, fun x hx s hs' => by rw [hs] at hx; have := (hN.nudge x hx).2 s hs'; omega⟩
end Go.Proofs.YteepfifglafjmaaDoor
