/-
  Chats (layer 8) in plain mathematics: it makes no difference in what pieces bytes come.
-/
import Derived.Test.YtpggnhnpphbaeaaDoorMathE8
import Derived.Lib.IndexMore
namespace Go.Proofs.YtpggnhnpphbaeaaDoor
namespace Ch
abbrev Fl := Option Bool
def flOv : Fl → Bool
  | some true => true
  | _ => false
def flFa : Fl → Bool
  | some false => true
  | _ => false
/-- how many steps further, what is left, how it stands, what is sent -/
structure Rr where
  j : Nat
  s : List UInt8
  f : Fl
  o : List UInt8
def last (x : List UInt8) : List UInt8 := x.drop (x.length - 300)
def want0 (x : St) : List UInt8 := (x.wants.getD 0 ⟨#[]⟩).data.toList
def rr : List St → List UInt8 → Rr
  | [], x => ⟨0, x, (some true), []⟩
  | t :: r, x => if t.wants = [] then ⟨0, x, (some false), []⟩
    else if (Lib.cut x (want0 t)).2.2 = true then ⟨(rr r (Lib.cut x (want0 t)).2.1).j + 1, (rr r (Lib.cut x (want0 t)).2.1).s, (rr r (Lib.cut x (want0 t)).2.1).f, t.send.data.toList ++ (rr r (Lib.cut x (want0 t)).2.1).o⟩
    else ⟨0, last x, none, []⟩
theorem rr_nil (x : List UInt8) : rr [] x = ⟨0, x, (some true), []⟩ := rfl
theorem rr_fail {t : St} {r : List St} {x : List UInt8} (h : t.wants = []) : rr (t :: r) x = ⟨0, x, (some false), []⟩ := by rw [rr, if_pos h]
theorem rr_hit {t : St} {r : List St} {x : List UInt8} (h : ¬ t.wants = []) (hc : (Lib.cut x (want0 t)).2.2 = true) : rr (t :: r) x = ⟨(rr r (Lib.cut x (want0 t)).2.1).j + 1, (rr r (Lib.cut x (want0 t)).2.1).s, (rr r (Lib.cut x (want0 t)).2.1).f, t.send.data.toList ++ (rr r (Lib.cut x (want0 t)).2.1).o⟩ := by rw [rr, if_neg h, if_pos hc]
theorem rr_stay {t : St} {r : List St} {x : List UInt8} (h : ¬ t.wants = []) (hc : ¬ (Lib.cut x (want0 t)).2.2 = true) : rr (t :: r) x = ⟨0, last x, none, []⟩ := by rw [rr, if_neg h, if_neg hc]

/-! where a text is found -/
theorem occ_in {x y sub : List UInt8} {j : Nat} (h : Lib.occAt (x ++ y) sub j = true) (hl : j + sub.length ≤ x.length) : Lib.occAt x sub j = true := by
  unfold Lib.occAt at *
  rw [List.isPrefixOf_iff_prefix] at *
  rw [List.drop_append_of_le_length (by omega)] at h
  exact List.prefix_of_prefix_length_le h (List.prefix_append _ _) (by rw [List.length_drop]; omega)
theorem occ_more {x y sub : List UInt8} {j : Nat} (h : Lib.occAt x sub j = true) (hj : j ≤ x.length) : Lib.occAt (x ++ y) sub j = true := by
  unfold Lib.occAt at *
  rw [List.isPrefixOf_iff_prefix] at *
  rw [List.drop_append_of_le_length hj]
  exact h.trans (List.prefix_append _ _)
theorem cut_hit {x sub : List UInt8} (h : (Lib.cut x sub).2.2 = true) (y : List UInt8) : (Lib.cut (x ++ y) sub).2.2 = true ∧ (Lib.cut (x ++ y) sub).2.1 = (Lib.cut x sub).2.1 ++ y := by
  have h0 : 0 ≤ Lib.index x sub := by
    unfold Lib.cut at h
    split at h
    · assumption
    · cases h
  have hr := Lib.index_room x sub h0
  rcases Lib.index_spec x sub with ⟨e, _⟩ | ⟨i, e, hi, ho, hn⟩
  · omega
  · rw [e] at hr
    have e2 : Lib.index (x ++ y) sub = i := by
      refine Lib.index_first (by rw [List.length_append]; omega) (occ_more ho hi) (fun j hj => ?_)
      cases hh : Lib.occAt (x ++ y) sub j with
      | false => rfl
      | true => exact absurd (occ_in hh (by omega)) (by rw [hn j hj]; decide)
    unfold Lib.cut
    rw [e, e2, if_pos (by omega), if_pos (by omega)]
    refine ⟨rfl, ?_⟩
    show (x ++ y).drop _ = x.drop _ ++ y
    rw [List.drop_append_of_le_length (by rw [Int.toNat_natCast]; omega)]
theorem cut_miss {x sub : List UInt8} (h : ¬ (Lib.cut x sub).2.2 = true) (hs : sub.length ≤ 300) (y : List UInt8) : (Lib.cut (x ++ y) sub).2.2 = (Lib.cut (last x ++ y) sub).2.2 ∧ (Lib.cut (x ++ y) sub).2.1 = (Lib.cut (last x ++ y) sub).2.1 := by
  have hno : ∀ j, j ≤ x.length → Lib.occAt x sub j = false := by
    rcases Lib.index_spec x sub with ⟨_, hn⟩ | ⟨i, e, _⟩
    · exact hn
    · exfalso; apply h; unfold Lib.cut; rw [e, if_pos (by omega)]
  by_cases hl : x.length ≤ 300
  · unfold last; rw [show x.length - 300 = 0 by omega, List.drop_zero]; exact ⟨rfl, rfl⟩
  · have hd : (x ++ y).drop (x.length - 300) = last x ++ y := by unfold last; rw [List.drop_append_of_le_length (by omega)]
    have hnn : Lib.NoOcc (x ++ y) sub (x.length - 300) := fun j hj => by
      cases hh : Lib.occAt (x ++ y) sub j with
      | false => rfl
      | true => exact absurd (occ_in hh (by omega)) (by rw [hno j (by omega)]; decide)
    have hi := Lib.index_drop hnn (by rw [List.length_append]; omega)
    rw [hd] at hi
    unfold Lib.cut
    rw [hi]
    have hge := Lib.index_ge (last x ++ y) sub
    generalize Lib.index (last x ++ y) sub = I at *
    by_cases hI : I = -1
    · subst hI; exact ⟨rfl, rfl⟩
    · have hne : (I == -1) = false := by rw [beq_eq_false_iff_ne]; exact hI
      rw [hne]
      simp only [Bool.false_eq_true, if_false]
      rw [if_pos (by omega), if_pos (by omega)]
      refine ⟨rfl, ?_⟩
      show (x ++ y).drop _ = (last x ++ y).drop _
      rw [← hd, List.drop_drop]
      have e : (I + ((x.length - 300 : Nat) : Int)).toNat + sub.length = x.length - 300 + (I.toNat + sub.length) := by omega
      rw [e]
theorem last_last (x y : List UInt8) : last (last x ++ y) = last (x ++ y) := by
  unfold last
  by_cases hl : x.length ≤ 300
  · rw [show x.length - 300 = 0 by omega, List.drop_zero]
  · rw [← List.drop_append_of_le_length (l₂ := y) (by omega), List.drop_drop, List.length_drop, List.length_append]
    have e : x.length - 300 + (x.length + y.length - (x.length - 300) - 300) = x.length + y.length - 300 := by omega
    rw [e]
theorem last_len (x : List UInt8) : (last x).length ≤ 300 := by unfold last; rw [List.length_drop]; omega
theorem last_le (x : List UInt8) : (last x).length ≤ x.length := by unfold last; rw [List.length_drop]; omega
/-- what waits is not long -/
def Short (l : List St) : Prop := ∀ t ∈ l, ∀ s ∈ t.wants, s.size ≤ 300
theorem want0_len {t : St} (h : ∀ s ∈ t.wants, s.size ≤ 300) : (want0 t).length ≤ 300 := by
  unfold want0
  cases hw : t.wants with
  | nil => simp
  | cons a b =>
    have := h a (by rw [hw]; simp)
    simpa using this
theorem rr_app : ∀ (r : List St) (x y : List UInt8), Short r →
    match (rr r x).f with
    | none => rr r (x ++ y) = ⟨(rr r x).j + (rr (r.drop (rr r x).j) ((rr r x).s ++ y)).j, (rr (r.drop (rr r x).j) ((rr r x).s ++ y)).s, (rr (r.drop (rr r x).j) ((rr r x).s ++ y)).f, (rr r x).o ++ (rr (r.drop (rr r x).j) ((rr r x).s ++ y)).o⟩
    | _ => rr r (x ++ y) = ⟨(rr r x).j, (rr r x).s ++ y, (rr r x).f, (rr r x).o⟩
  | [], x, y, _ => by simp only [rr_nil]
  | t :: r, x, y, hs => by
    by_cases hw : t.wants = []
    · simp only [rr_fail hw]
    · by_cases hc : (Lib.cut x (want0 t)).2.2 = true
      · have hc2 := cut_hit hc y
        have ih := rr_app r (Lib.cut x (want0 t)).2.1 y (fun u hu => hs u (by simp [hu]))
        rw [rr_hit hw hc]
        have e2 := rr_hit (r := r) hw hc2.1
        rw [hc2.2] at e2
        simp only
        rcases hf : (rr r (Lib.cut x (want0 t)).2.1).f with _ | (_ | _)
        · rw [hf] at ih
          simp only at ih ⊢
          rw [e2, ih]
          simp only [List.drop_succ_cons, List.append_assoc]
          congr 1
          omega
        · rw [hf] at ih
          simp only at ih ⊢
          rw [e2, ih]
        · rw [hf] at ih
          simp only at ih ⊢
          rw [e2, ih]
      · have hm := cut_miss hc (want0_len (hs t (by simp))) y
        rw [rr_stay hw hc]
        simp only [List.drop_zero, Nat.zero_add, List.nil_append]
        by_cases hc3 : (Lib.cut (x ++ y) (want0 t)).2.2 = true
        · have hc4 : (Lib.cut (last x ++ y) (want0 t)).2.2 = true := by rw [← hm.1]; exact hc3
          rw [rr_hit hw hc3, rr_hit hw hc4, hm.2]
        · have hc4 : ¬ (Lib.cut (last x ++ y) (want0 t)).2.2 = true := by rw [← hm.1]; exact hc3
          rw [rr_stay hw hc3, rr_stay hw hc4, last_last]
theorem cut_le (x sub : List UInt8) : (Lib.cut x sub).2.1.length ≤ x.length := by
  unfold Lib.cut
  split
  · simp only [List.length_drop]; omega
  · simp
theorem rr_len : ∀ (r : List St) (x : List UInt8), (rr r x).s.length ≤ x.length ∧ (rr r x).j ≤ r.length ∧ ((∀ t ∈ r, t.send.size ≤ 6000) → (rr r x).o.length ≤ 6000 * (rr r x).j)
  | [], x => by simp [rr_nil]
  | t :: r, x => by
    by_cases hw : t.wants = []
    · simp [rr_fail hw]
    · by_cases hc : (Lib.cut x (want0 t)).2.2 = true
      · obtain ⟨h1, h2, h3⟩ := rr_len r (Lib.cut x (want0 t)).2.1
        have hl := cut_le x (want0 t)
        rw [rr_hit hw hc]
        refine ⟨by simp only; omega, by simp only [List.length_cons]; omega, fun hs => ?_⟩
        have h4 := h3 (fun u hu => hs u (by simp [hu]))
        have h5 : t.send.data.toList.length ≤ 6000 := by rw [Array.length_toList]; exact hs t (by simp)
        simp only [List.length_append]
        omega
      · rw [rr_stay hw hc]
        dsimp only
        exact ⟨last_le x, Nat.zero_le _, fun _ => Nat.zero_le _⟩
theorem going_short : ∀ (r : List St) (x : List UInt8), (rr r x).f = none → (rr r x).s.length ≤ 300
  | [], x, h => by rw [rr_nil] at h; cases h
  | t :: r, x, h => by
    by_cases hw : t.wants = []
    · rw [rr_fail hw] at h; cases h
    · by_cases hc : (Lib.cut x (want0 t)).2.2 = true
      · rw [rr_hit hw hc] at h ⊢
        exact going_short r _ h
      · rw [rr_stay hw hc]
        dsimp only
        exact last_len x
/-- a chat as rr tells it -/
def co (l : List St) (p : Int) (k : Nat) (x : List UInt8) (f : Fl) : Co := ⟨l, (k : Int), 0, x, 0, p, flOv f, flFa f⟩
theorem run_rr (l : List St) (p : Int) : ∀ (r : List St) (k n : Nat) (x out : List UInt8), l.drop k = r → k ≤ l.length → r.length ≤ n → run (n + 1) (co l p k x none) out = (co l p (k + (rr r x).j) (rr r x).s (rr r x).f, out ++ (rr r x).o)
  | [], k, n, x, out, hr, hk, _ => by
    have hk2 : l.length = k := by
      have := congrArg List.length hr
      rw [List.length_drop, List.length_nil] at this
      omega
    have hno : ¬ (0 ≤ (k : Int) ∧ (k : Int) < (l.length : Int)) := by omega
    have hno2 : ¬ (0 ≤ (co l p k x none).step ∧ (co l p k x none).step < ((co l p k x none).steps.length : Int)) := hno
    rw [run, if_neg hno2, rr_nil, List.append_nil]
    rfl
  | t :: r, k, n, x, out, hr, hk, hn => by
    have hkl : k < l.length := by
      have := congrArg List.length hr
      rw [List.length_drop, List.length_cons] at this
      omega
    have hat : at_ (co l p k x none) = t := by
      unfold at_ co
      simp only [Int.toNat_natCast]
      rw [List.getD_eq_getElem?_getD]
      have : (l.drop k)[0]? = some t := by rw [hr]; rfl
      rw [List.getElem?_drop, Nat.add_zero] at this
      rw [this]; rfl
    have hr2 : l.drop (k + 1) = r := by rw [← List.drop_drop, hr]; rfl
    have hyes : 0 ≤ (co l p k x none).step ∧ (co l p k x none).step < ((co l p k x none).steps.length : Int) := by
      show 0 ≤ (k : Int) ∧ (k : Int) < (l.length : Int); omega
    rw [run, if_pos hyes, hat]
    by_cases hw : t.wants = []
    · have hno : ¬ (0 ≤ (co l p k x none).want ∧ (co l p k x none).want < (t.wants.length : Int)) := by
        show ¬ (0 ≤ (0 : Int) ∧ (0 : Int) < (t.wants.length : Int)); rw [hw]; simp
      rw [if_neg hno, rr_fail hw, List.append_nil]
      rfl
    · have hy2 : 0 ≤ (co l p k x none).want ∧ (co l p k x none).want < (t.wants.length : Int) := by
        have : 0 < t.wants.length := List.length_pos_iff.2 hw
        show 0 ≤ (0 : Int) ∧ (0 : Int) < (t.wants.length : Int); omega
      have hwd : (wanted (co l p k x none)).data.toList = want0 t := by unfold wanted; rw [hat]; rfl
      rw [if_pos hy2, hwd]
      show (if (Lib.cut x (want0 t)).2.2 = true then _ else _) = _
      by_cases hc : (Lib.cut x (want0 t)).2.2 = true
      · rw [if_pos hc, rr_hit hw hc]
        obtain ⟨m, rfl⟩ : ∃ m, n = m + 1 := ⟨n - 1, by rw [List.length_cons] at hn; omega⟩
        have ih := run_rr l p r (k + 1) m (Lib.cut x (want0 t)).2.1 (out ++ t.send.data.toList) hr2 (by omega) (by rw [List.length_cons] at hn; omega)
        have e : ({ co l p k x none with seen := (Lib.cut x (want0 t)).2.1, step := (co l p k x none).step + 1, want := 0, wait := 0 } : Co) = co l p (k + 1) (Lib.cut x (want0 t)).2.1 none := by
          simp [co, flOv, flFa]
        have e2 : (Lib.cut (co l p k x none).seen (want0 t)).2.1 = (Lib.cut x (want0 t)).2.1 := rfl
        rw [e2, e, ih]
        simp only [List.append_assoc]
        rw [show k + 1 + (rr r (Lib.cut x (want0 t)).2.1).j = k + ((rr r (Lib.cut x (want0 t)).2.1).j + 1) by omega]
      · rw [if_neg hc, rr_stay hw hc]
        dsimp only [co, last, flOv, flFa, Nat.add_zero]
        rw [List.append_nil]
theorem begin_rr (l : List St) : begin_ l 3 = (co l 3 (rr l []).j (rr l []).s (rr l []).f, (rr l []).o) := by
  have := run_rr l 3 l 0 l.length [] [] rfl (by omega) (Nat.le_refl _)
  rw [Nat.zero_add, List.nil_append] at this
  exact this
/-- what has come so far, in whatever pieces -/
structure Fed (l : List St) (x : List UInt8) (c : Co) (tot : List UInt8) : Prop where
  shape : ∃ sb : List UInt8, c = co l 3 (rr l x).j sb (rr l x).f ∧ sb.length ≤ 3000 ∧ (match (rr l x).f with | none => sb = (rr l x).s | _ => True)
  out : tot = (rr l x).o
theorem Fed.first (l : List St) : Fed l [] (begin_ l 3).1 (begin_ l 3).2 := by
  rw [begin_rr]
  refine ⟨⟨(rr l []).s, rfl, by have := (rr_len l []).1; simp at this; rw [this]; simp, by split <;> trivial⟩, rfl⟩
theorem Fed.more {l : List St} {x : List UInt8} {c : Co} {tot : List UInt8} (h : Fed l x c tot) (hs : Short l) (y : List UInt8) (hy : y.length ≤ 2000) : Fed l (x ++ y) (feed c y).1 (tot ++ (feed c y).2) := by
  obtain ⟨⟨sb, rfl, hsb, hm⟩, rfl⟩ := h
  have happ := rr_app l x y hs
  rcases hf : (rr l x).f with _ | (_ | _)
  · rw [hf] at happ hm
    simp only at happ hm
    subst hm
    have hlen := rr_len l x
    have hg : feed (co l 3 (rr l x).j (rr l x).s none) y = (co l 3 ((rr l x).j + (rr (l.drop (rr l x).j) ((rr l x).s ++ y)).j) (rr (l.drop (rr l x).j) ((rr l x).s ++ y)).s (rr (l.drop (rr l x).j) ((rr l x).s ++ y)).f, (rr (l.drop (rr l x).j) ((rr l x).s ++ y)).o) := by
      unfold feed
      rw [if_neg (by simp [co, flOv, flFa])]
      have := run_rr l 3 (l.drop (rr l x).j) (rr l x).j l.length ((rr l x).s ++ y) [] rfl hlen.2.1 (by rw [List.length_drop]; omega)
      rw [List.nil_append] at this
      exact this
    rw [hg]
    refine ⟨⟨(rr (l.drop (rr l x).j) ((rr l x).s ++ y)).s, by rw [happ], ?_, ?_⟩, by rw [happ]⟩
    · have h1 := (rr_len (l.drop (rr l x).j) ((rr l x).s ++ y)).1
      rw [List.length_append] at h1
      have h300 : (rr l x).s.length ≤ 300 := going_short l x hf
      omega
    · rw [happ]; simp only; split <;> trivial
  · rw [hf] at happ
    simp only at happ
    have hd : feed (co l 3 (rr l x).j sb (some false)) y = (co l 3 (rr l x).j sb (some false), []) := by unfold feed; rw [if_pos (Or.inr (show (co l 3 (rr l x).j sb (some false)).failed = true from rfl))]
    rw [hd, List.append_nil]
    exact ⟨⟨sb, by rw [happ], hsb, by rw [happ]; trivial⟩, by rw [happ]⟩
  · rw [hf] at happ
    simp only at happ
    have hd : feed (co l 3 (rr l x).j sb (some true)) y = (co l 3 (rr l x).j sb (some true), []) := by unfold feed; rw [if_pos (Or.inl (show (co l 3 (rr l x).j sb (some true)).over = true from rfl))]
    rw [hd, List.append_nil]
    exact ⟨⟨sb, by rw [happ], hsb, by rw [happ]; trivial⟩, by rw [happ]⟩
end Ch
end Go.Proofs.YtpggnhnpphbaeaaDoor
