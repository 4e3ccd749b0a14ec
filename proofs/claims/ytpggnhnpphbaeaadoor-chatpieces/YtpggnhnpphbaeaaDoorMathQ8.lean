/-
  Chats (layer 8) in plain mathematics: a chat to which nothing comes ends.
-/
import Derived.Test.YtpggnhnpphbaeaaDoorCh30
import Derived.Test.YtpggnhnpphbaeaaDoorMathE8
namespace Go.Proofs.YtpggnhnpphbaeaaDoor
namespace Ch
def sumW : List St → Nat
  | [] => 0
  | x :: r => x.wants.length + sumW r
/-- steps whose nudges are one less than what is waited for -/
def Even (l : List St) : Prop := ∀ x ∈ l, x.wants.length = x.nudge.length + 1
/-- how far a chat may be -/
structure Jn (l : List St) (q : Nat) (c : Co) : Prop where
  steps : c.steps = l
  step : 0 ≤ c.step
  want : 0 ≤ c.want ∧ (c.want ≤ 0 ∨ ∃ x ∈ l, c.want ≤ x.wants.length)
  wait : 0 ≤ c.wait ∧ c.wait ≤ q + 1
  seen : c.seen = []
  pat : c.pat = q
/-- under way: at step s, its want m, behind t ticks; at most k ticks are left -/
structure Un (l : List St) (q : Nat) (c : Co) (s m t k : Nat) : Prop where
  steps : c.steps = l
  step : c.step = s
  want : c.want = m
  wait : c.wait = t
  seen : c.seen = []
  pat : c.pat = q
  over : c.over = false
  failed : c.failed = false
  le : s ≤ l.length
  inw : ∀ h : s < l.length, m < l[s].wants.length
  zero : s = l.length → m = 0
  tq : t ≤ q
  pot : sumW (l.drop s) * (q + 1) ≤ k + m * (q + 1) + t
def done (c : Co) : Prop := c.over = true ∨ c.failed = true
theorem cut_nil (w : List UInt8) : (Lib.cut [] w).2.1 = [] := by
  unfold Lib.cut
  split <;> simp
theorem at_get {c : Co} {l : List St} {s : Nat} (h1 : c.steps = l) (h2 : c.step = s) (h : s < l.length) : at_ c = l[s] := by
  unfold at_
  rw [h1, h2, Int.toNat_natCast, List.getD_eq_getElem?_getD, List.getElem?_eq_getElem h]
  rfl
theorem Un.jn {l : List St} {q : Nat} {c : Co} {s m t k : Nat} (h : Un l q c s m t k) : Jn l q c := by
  refine ⟨h.steps, by rw [h.step]; omega, ⟨by rw [h.want]; omega, ?_⟩, by rw [h.wait]; have := h.tq; omega, h.seen, h.pat⟩
  by_cases hs : s < l.length
  · right
    exact ⟨l[s], List.getElem_mem hs, by rw [h.want]; have := h.inw hs; omega⟩
  · left
    have := h.zero (by have := h.le; omega)
    rw [h.want]; omega
theorem run_un (l : List St) (q : Nat) (he : Even l) : ∀ (n : Nat) (c : Co) (out : List UInt8) (s m t k : Nat), Un l q c s m t k → l.length - s < n →
    Jn l q (run n c out).1 ∧ (done (run n c out).1 ∨ ∃ s' m' t', s' < l.length ∧ Un l q (run n c out).1 s' m' t' k)
  | 0, _, _, _, _, _, _, _, h => by omega
  | n + 1, c, out, s, m, t, k, h, hn => by
    unfold run
    by_cases hs : s < l.length
    · have hat := at_get h.steps h.step hs
      have hm := h.inw hs
      rw [if_pos (by rw [h.step, h.steps]; omega), if_pos (by rw [hat, h.want]; omega)]
      split
      · refine run_un l q he n _ _ (s + 1) 0 0 k ⟨h.steps, by show c.step + 1 = _; rw [h.step]; omega, rfl, rfl, by show (Lib.cut c.seen _).2.1 = []; rw [h.seen]; exact cut_nil _, h.pat, h.over, h.failed, by omega, fun h2 => ?_, fun _ => rfl, Nat.zero_le _, ?_⟩ (by omega)
        · have := he l[s + 1] (List.getElem_mem h2)
          omega
        · have hd : sumW (l.drop s) = l[s].wants.length + sumW (l.drop (s + 1)) := by rw [List.drop_eq_getElem_cons hs]; rfl
          have hp := h.pot
          rw [hd, Nat.add_mul] at hp
          have h1 : (m + 1) * (q + 1) ≤ l[s].wants.length * (q + 1) := Nat.mul_le_mul_right _ (by omega)
          rw [Nat.add_mul, Nat.one_mul] at h1
          have := h.tq
          omega
      · have hz : c.seen.drop (c.seen.length - 300) = [] := by rw [h.seen]; simp
        rw [hz]
        have hu : Un l q { c with seen := [] } s m t k := ⟨h.steps, h.step, h.want, h.wait, rfl, h.pat, h.over, h.failed, h.le, h.inw, h.zero, h.tq, h.pot⟩
        exact ⟨hu.jn, .inr ⟨s, m, t, hs, hu⟩⟩
    · rw [if_neg (by rw [h.step, h.steps]; have := h.le; omega)]
      have hj := h.jn
      exact ⟨⟨hj.steps, hj.step, hj.want, hj.wait, hj.seen, hj.pat⟩, .inl (.inl rfl)⟩
theorem tick_un (l : List St) (q : Nat) (he : Even l) (c : Co) (s m t k : Nat) (h : Un l q c s m t (k + 1)) (hs : s < l.length) :
    Jn l q (tick c).1 ∧ (done (tick c).1 ∨ ∃ s' m' t', s' < l.length ∧ Un l q (tick c).1 s' m' t' k) := by
  have hj := h.jn
  have hm := h.inw hs
  have htq := h.tq
  have hp := h.pot
  unfold tick
  rw [if_neg (by rw [h.over, h.failed]; simp)]
  by_cases hw : c.wait + 1 ≤ c.pat
  · rw [if_pos hw]
    rw [h.wait, h.pat] at hw
    have hu : Un l q { c with wait := c.wait + 1 } s m (t + 1) k := ⟨h.steps, h.step, h.want, by show c.wait + 1 = _; rw [h.wait]; omega, h.seen, h.pat, h.over, h.failed, h.le, h.inw, h.zero, by omega, by omega⟩
    exact ⟨hu.jn, .inr ⟨s, m, t + 1, hs, hu⟩⟩
  · rw [if_neg hw]
    rw [h.wait, h.pat] at hw
    cases hn : nudgeOf c with
    | none =>
      exact ⟨⟨hj.steps, hj.step, hj.want, by show 0 ≤ c.wait + 1 ∧ c.wait + 1 ≤ (q : Int) + 1; rw [h.wait]; omega, hj.seen, hj.pat⟩, .inl (.inr rfl)⟩
    | some z =>
      have hat := at_get h.steps h.step hs
      have hlt : m + 1 < l[s].wants.length := by
        unfold nudgeOf at hn
        rw [if_pos (by rw [h.step, h.steps]; omega), hat] at hn
        split at hn
        · rename_i h2
          rw [h.want] at h2
          have := he l[s] (List.getElem_mem hs)
          omega
        · cases hn
      refine run_un l q he _ _ _ s (m + 1) 0 k ⟨h.steps, h.step, by show c.want + 1 = _; rw [h.want]; omega, rfl, h.seen, h.pat, h.over, h.failed, h.le, fun _ => hlt, fun e => by omega, Nat.zero_le _, ?_⟩ (by show _ < c.steps.length + 1; rw [h.steps]; omega)
      rw [Nat.add_mul, Nat.one_mul]
      omega
theorem tick_done_ {c : Co} (h : done c) : tick c = (c, []) := by
  unfold tick
  rw [if_pos (show c.over = true ∨ c.failed = true from h)]
/-- over, or at most k ticks are left -/
def Ends (l : List St) (q : Nat) (c : Co) (k : Nat) : Prop := Jn l q c ∧ (done c ∨ ∃ s m t, s < l.length ∧ Un l q c s m t k)
theorem Ends.tick {l : List St} {q : Nat} {c : Co} {k : Nat} (he : Even l) (h : Ends l q c (k + 1)) : Ends l q (Ch.tick c).1 k := by
  obtain ⟨hj, h | ⟨s, m, t, hs, h⟩⟩ := h
  · rw [tick_done_ h]; exact ⟨hj, .inl h⟩
  · exact tick_un l q he c s m t k h hs
theorem Ends.zero {l : List St} {q : Nat} {c : Co} (h : Ends l q c 0) : done c := by
  obtain ⟨_, h | ⟨s, m, t, hs, h⟩⟩ := h
  · exact h
  · exfalso
    have hd : sumW (l.drop s) = l[s].wants.length + sumW (l.drop (s + 1)) := by rw [List.drop_eq_getElem_cons hs]; rfl
    have hp := h.pot
    have hm := h.inw hs
    have := h.tq
    rw [hd, Nat.add_mul] at hp
    have h1 : (m + 1) * (q + 1) ≤ l[s].wants.length * (q + 1) := Nat.mul_le_mul_right _ (by omega)
    rw [Nat.add_mul, Nat.one_mul] at h1
    omega
theorem begin_ends (l : List St) (p : Int) (q : Nat) (he : Even l) (hq : min (max p 1) 1000 = (q : Int)) : Ends l q (begin_ l p).1 (sumW l * (q + 1)) := by
  unfold begin_ goOn
  rw [hq]
  refine run_un l q he _ _ _ 0 0 0 _ ⟨rfl, rfl, rfl, rfl, rfl, rfl, rfl, rfl, Nat.zero_le _, fun h => ?_, fun _ => rfl, Nat.zero_le _, by simp⟩ (by show _ < l.length + 1; omega)
  have := he l[0] (List.getElem_mem h)
  omega
end Ch
end Go.Proofs.YtpggnhnpphbaeaaDoor
