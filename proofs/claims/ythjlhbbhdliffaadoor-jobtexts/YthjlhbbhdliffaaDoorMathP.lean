/-
  Paths (layer 4) in plain mathematics, over lists of bytes: parts, a path, the path that a text means, under.
-/
import Derived.Lib.Split
import Derived.Lib.SplitLaws
import Derived.Lib.Join
namespace Go.Proofs.YthjlhbbhdliffaaDoor
open Go.Lib
namespace Pth
abbrev Bs := List UInt8

/-- the texts between the strokes -/
def spl : Bs → List Bs
  | [] => [[]]
  | b :: l => if b = 47 then [] :: spl l else match spl l with
    | [] => [[b]]
    | h :: t => (b :: h) :: t

theorem spl_ne : ∀ l, spl l ≠ []
  | [] => by simp [spl]
  | b :: l => by
    unfold spl
    split
    · simp
    · split <;> simp

theorem spl_stroke (l : Bs) : spl (47 :: l) = [] :: spl l := by simp [spl]
theorem spl_other {b : UInt8} (h : b ≠ 47) (l : Bs) : ∃ x t, spl l = x :: t ∧ spl (b :: l) = (b :: x) :: t := by
  obtain ⟨x, t, e⟩ := List.exists_cons_of_ne_nil (spl_ne l)
  exact ⟨x, t, e, by rw [spl, if_neg h, e]⟩

theorem spl_no : ∀ (l : Bs) (x : Bs), x ∈ spl l → (47 : UInt8) ∉ x
  | [], x, h => by simp [spl] at h; subst h; simp
  | b :: l, x, h => by
    by_cases hb : b = 47
    · subst hb
      rw [spl_stroke] at h
      rcases List.mem_cons.1 h with rfl | h
      · simp
      · exact spl_no l x h
    · obtain ⟨y, t, e, e2⟩ := spl_other hb l
      rw [e2] at h
      rcases List.mem_cons.1 h with rfl | h
      · have := spl_no l y (by rw [e]; simp)
        simp only [List.mem_cons, not_or]
        exact ⟨fun c => hb c.symm, this⟩
      · exact spl_no l x (by rw [e]; simp [h])

theorem spl_append : ∀ (a b : Bs), spl (a ++ 47 :: b) = spl a ++ spl b
  | [], b => by rw [List.nil_append, spl_stroke]; simp [spl]
  | c :: a, b => by
    rw [List.cons_append]
    by_cases hc : c = 47
    · subst hc; rw [spl_stroke, spl_stroke, spl_append a b]; rfl
    · obtain ⟨x, t, e, e2⟩ := spl_other hc a
      obtain ⟨x', t', e', e2'⟩ := spl_other hc (a ++ 47 :: b)
      rw [spl_append a b, e, List.cons_append] at e'
      injection e' with h1 h2
      rw [e2', e2, ← h1, ← h2]; rfl

theorem spl_one : ∀ (a : Bs), (47 : UInt8) ∉ a → spl a = [a]
  | [], _ => rfl
  | c :: a, h => by
    have hc : c ≠ 47 := fun e => h (by simp [e])
    have ha : (47 : UInt8) ∉ a := fun e => h (by simp [e])
    obtain ⟨x, t, e, e2⟩ := spl_other hc a
    rw [spl_one a ha] at e
    injection e with h1 h2
    rw [e2, ← h1, ← h2]

/-- joined again -/
def jn : List Bs → Bs
  | [] => []
  | [x] => x
  | x :: y :: r => x ++ 47 :: jn (y :: r)

theorem jn_cons (x : Bs) (l : List Bs) (h : l ≠ []) : jn (x :: l) = x ++ 47 :: jn l := by
  cases l with
  | nil => exact absurd rfl h
  | cons y r => rfl

theorem join_jn : ∀ l : List Bs, Lib.join l [47] = jn l
  | [] => rfl
  | [x] => by simp [Lib.join, jn, List.intercalate, List.intersperse]
  | x :: y :: r => by
    have ih := join_jn (y :: r)
    unfold Lib.join at ih ⊢
    rw [jn, ← ih]
    simp [List.intercalate, List.intersperse]

theorem jn_spl : ∀ l, jn (spl l) = l
  | [] => rfl
  | b :: l => by
    by_cases hb : b = 47
    · subst hb; rw [spl_stroke, jn_cons _ _ (spl_ne l), jn_spl l]; rfl
    · obtain ⟨x, t, e, e2⟩ := spl_other hb l
      have ih := jn_spl l
      rw [e] at ih
      rw [e2, ← ih]
      cases t with
      | nil => rfl
      | cons y r => rfl

theorem spl_jn : ∀ (l : List Bs), l ≠ [] → (∀ x ∈ l, (47 : UInt8) ∉ x) → spl (jn l) = l
  | [], h, _ => absurd rfl h
  | [x], _, h => spl_one x (h x (by simp))
  | x :: y :: r, _, h => by
    rw [jn, spl_append, spl_one x (h x (by simp)), spl_jn (y :: r) (by simp) (fun z hz => h z (by simp at hz ⊢; exact .inr hz))]; rfl

theorem spl_length : ∀ l : Bs, (spl l).length ≤ l.length + 1
  | [] => by simp [spl]
  | b :: l => by
    have ih := spl_length l
    by_cases hb : b = 47
    · subst hb; rw [spl_stroke]; simp; omega
    · obtain ⟨x, t, e, e2⟩ := spl_other hb l
      rw [e] at ih; rw [e2]; simp at ih ⊢; omega

theorem spl_size : ∀ (l : Bs) (x : Bs), x ∈ spl l → x.length ≤ l.length
  | [], x, h => by simp [spl] at h; subst h; simp
  | b :: l, x, h => by
    by_cases hb : b = 47
    · subst hb
      rw [spl_stroke] at h
      rcases List.mem_cons.1 h with rfl | h
      · simp
      · have := spl_size l x h; simp; omega
    · obtain ⟨y, t, e, e2⟩ := spl_other hb l
      rw [e2] at h
      rcases List.mem_cons.1 h with rfl | h
      · have := spl_size l y (by rw [e]; simp)
        simp; omega
      · have := spl_size l x (by rw [e]; simp [h]); simp; omega

/-- a part, where no stroke is -/
def okb (b : UInt8) : Bool := decide (33 ≤ b.toNat ∧ b.toNat ≤ 126)
def isPart (s : Bs) : Bool := s.all okb && !(s == []) && !(s == [46]) && !(s == [46, 46])
def okr (b : UInt8) : Bool := decide (33 ≤ b.toNat ∧ b.toNat ≤ 126 ∧ b ≠ 47)
def isPartR (s : Bs) : Bool := s.all okr && !(s == []) && !(s == [46]) && !(s == [46, 46])
theorem isPartR_eq (s : Bs) (h : (47 : UInt8) ∉ s) : isPartR s = isPart s := by
  have : s.all okr = s.all okb := by
    rw [Bool.eq_iff_iff, List.all_eq_true, List.all_eq_true]
    constructor
    · intro hh x hx
      have := hh x hx
      simp only [okr, okb, decide_eq_true_eq] at this ⊢
      exact ⟨this.1, this.2.1⟩
    · intro hh x hx
      have := hh x hx
      simp only [okr, okb, decide_eq_true_eq] at this ⊢
      exact ⟨this.1, this.2, fun c => h (c ▸ hx)⟩
  rw [isPartR, isPart, this]
theorem part_ne {s : Bs} (h : isPart s = true) : s ≠ [] ∧ s ≠ [46] ∧ s ≠ [46, 46] := by
  simp only [isPart, Bool.and_eq_true, Bool.not_eq_true', beq_eq_false_iff_ne] at h
  exact ⟨h.1.1.2, h.1.2, h.2⟩

def isPath (p : Bs) : Bool := p == [47] || (p.head? == some 47 && (spl p.tail).all isPart)
def chk (p : Bs) : Nat := if p.length > 40 then 5 else if isPath p then 0 else 3

def step (k : List Bs) (s : Bs) : Option (List Bs) :=
  if s = [] ∨ s = [46] then some k else if s = [46, 46] then some k.dropLast else if isPart s then some (k ++ [s]) else none
def run : List Bs → List Bs → Option (List Bs)
  | k, [] => some k
  | k, s :: l => match step k s with
    | none => none
    | some k' => run k' l
def out (k : List Bs) : Bs := 47 :: jn k
/-- the path that a text means, and the error -/
def clean (p : Bs) : Bs × Nat :=
  if p.length > 300 then ([], 5) else if p.head? = some 47 then
    match run [] (spl p.tail) with
    | none => ([], 3)
    | some k => if (out k).length > 40 then ([], 5) else (out k, 0)
  else ([], 3)
def under (r p : Bs) : Bool := decide (chk r = 0) && decide (chk p = 0) && (p == r || r == [47] || (r ++ [47]).isPrefixOf p)
def permit (l : List Bs) (p : Bs) : Bool := l.any (under · p)

theorem chk_ok {p : Bs} : chk p = 0 ↔ p.length ≤ 40 ∧ isPath p = true := by
  unfold chk
  split
  · constructor
    · intro h; omega
    · intro h; omega
  · split
    · rename_i h1 h2; exact ⟨fun _ => ⟨by omega, h2⟩, fun _ => rfl⟩
    · rename_i h1 h2; constructor
      · intro h; omega
      · intro h; exact absurd h.2 h2

theorem run_append : ∀ (a b : List Bs) (k : List Bs), run k (a ++ b) = (run k a).bind (run · b)
  | [], b, k => rfl
  | s :: a, b, k => by
    rw [List.cons_append, run, run]
    cases step k s with
    | none => rfl
    | some k' => exact run_append a b k'

theorem step_part {s : Bs} (h : isPart s = true) (k : List Bs) : step k s = some (k ++ [s]) := by
  obtain ⟨h1, h2, h3⟩ := part_ne h
  unfold step
  rw [if_neg (by simp [h1, h2]), if_neg h3, if_pos h]

theorem run_parts : ∀ (a k : List Bs), a.all isPart = true → run k a = some (k ++ a)
  | [], k, _ => by rw [run, List.append_nil]
  | s :: a, k, h => by
    rw [List.all_cons, Bool.and_eq_true] at h
    rw [run, step_part h.1]
    show run (k ++ [s]) a = _
    rw [run_parts a _ h.2, List.append_assoc]; rfl

theorem step_all {k k' : List Bs} {s : Bs} (hk : k.all isPart = true) (h : step k s = some k') : k'.all isPart = true := by
  unfold step at h
  split at h
  · injection h with h; exact h ▸ hk
  · split at h
    · injection h with h; subst h
      rw [List.all_eq_true] at hk ⊢
      exact fun x hx => hk x ((List.dropLast_sublist k).subset hx)
    · split at h
      · rename_i hp; injection h with h; subst h
        rw [List.all_append, hk]; simp [hp]
      · cases h

theorem run_all : ∀ (l k k' : List Bs), k.all isPart = true → run k l = some k' → k'.all isPart = true
  | [], k, k', hk, h => by rw [run] at h; injection h with h; exact h ▸ hk
  | s :: l, k, k', hk, h => by
    rw [run] at h
    cases hs : step k s with
    | none => rw [hs] at h; cases h
    | some k2 => rw [hs] at h; exact run_all l k2 k' (step_all hk hs) h

/-- what is kept has no stroke, where what is gone through has none -/
theorem step_no {k k' : List Bs} {s : Bs} (hk : ∀ x ∈ k, (47 : UInt8) ∉ x) (hs : (47 : UInt8) ∉ s) (h : step k s = some k') : ∀ x ∈ k', (47 : UInt8) ∉ x := by
  unfold step at h
  split at h
  · injection h with h; exact h ▸ hk
  · split at h
    · injection h with h; subst h
      exact fun x hx => hk x ((List.dropLast_sublist k).subset hx)
    · split at h
      · injection h with h; subst h
        intro x hx
        rcases List.mem_append.1 hx with hx | hx
        · exact hk x hx
        · simp at hx; exact hx ▸ hs
      · cases h

theorem run_no : ∀ (l k k' : List Bs), (∀ x ∈ k, (47 : UInt8) ∉ x) → (∀ x ∈ l, (47 : UInt8) ∉ x) → run k l = some k' → ∀ x ∈ k', (47 : UInt8) ∉ x
  | [], k, k', hk, _, h => by rw [run] at h; injection h with h; exact h ▸ hk
  | s :: l, k, k', hk, hl, h => by
    rw [run] at h
    cases hs : step k s with
    | none => rw [hs] at h; cases h
    | some k2 => rw [hs] at h; exact run_no l k2 k' (step_no hk (hl s (by simp)) hs) (fun x hx => hl x (by simp [hx])) h

theorem path_out {k : List Bs} (hp : k.all isPart = true) (hn : ∀ x ∈ k, (47 : UInt8) ∉ x) : isPath (out k) = true := by
  unfold isPath out
  by_cases h : k = []
  · subst h; rfl
  · simp only [List.head?_cons, List.tail_cons]
    rw [spl_jn k h hn, hp]; simp

theorem out_path {p : Bs} (h : isPath p = true) : run [] (spl p.tail) = some (if p = [47] then [] else spl p.tail) ∧ out (if p = [47] then [] else spl p.tail) = p ∧ p.head? = some 47 := by
  unfold isPath at h
  by_cases hp : p = [47]
  · subst hp; exact ⟨rfl, rfl, rfl⟩
  · rw [if_neg hp]
    simp only [Bool.or_eq_true, Bool.and_eq_true, beq_iff_eq] at h
    rcases h with h | ⟨h1, h2⟩
    · exact absurd h hp
    · refine ⟨by rw [run_parts _ _ h2]; rfl, ?_, h1⟩
      unfold out
      rw [jn_spl]
      cases p with
      | nil => cases h1
      | cons c t => simp at h1; rw [h1]; rfl

/-- P4.5: a path is its own -/
theorem clean_path {p : Bs} (h : chk p = 0) : clean p = (p, 0) := by
  obtain ⟨hl, hp⟩ := chk_ok.1 h
  obtain ⟨h1, h2, h3⟩ := out_path hp
  unfold clean
  rw [if_neg (by omega), if_pos h3, h1]
  simp only
  rw [h2, if_neg (by omega)]

theorem clean_ok {p q : Bs} (h : clean p = (q, 0)) : p.head? = some 47 ∧ ∃ k, run [] (spl p.tail) = some k ∧ q = out k ∧ q.length ≤ 40 ∧ p.length ≤ 300 := by
  unfold clean at h
  split at h
  · injection h with h1 h2; cases h2
  · rename_i hl
    split at h
    · rename_i h3
      refine ⟨h3, ?_⟩
      split at h
      · injection h with h1 h2; cases h2
      · rename_i k hk
        split at h
        · injection h with h1 h2; cases h2
        · injection h with h1 h2
          exact ⟨k, hk, h1.symm, by rw [← h1]; omega, by omega⟩
    · injection h with h1 h2; cases h2

/-- P4.5: what is answered is a path that may be -/
theorem clean_chk {p q : Bs} (h : clean p = (q, 0)) : chk q = 0 := by
  obtain ⟨_, k, hk, rfl, hl, _⟩ := clean_ok h
  exact chk_ok.2 ⟨hl, path_out (run_all _ _ _ rfl hk) (run_no _ _ _ (by simp) (fun x hx => spl_no _ x hx) hk)⟩

theorem clean_bad {p q : Bs} {e : Nat} (h : clean p = (q, e)) (he : e ≠ 0) : q = [] := by
  unfold clean at h
  split at h
  · injection h with h1 h2; exact h1.symm
  · split at h
    · split at h
      · injection h with h1 h2; exact h1.symm
      · split at h
        · injection h with h1 h2; exact h1.symm
        · injection h with h1 h2; exact absurd h2.symm he
    · injection h with h1 h2; exact h1.symm

/-- two points one behind the other -/
def two : Bs → Bool
  | 46 :: 46 :: _ => true
  | _ :: l => two l
  | [] => false

theorem jn_append : ∀ (a b : List Bs), a ≠ [] → b ≠ [] → jn (a ++ b) = jn a ++ 47 :: jn b
  | [], _, h, _ => absurd rfl h
  | [x], b, _, hb => by rw [List.singleton_append, jn_cons _ _ hb]; rfl
  | x :: y :: r, b, _, hb => by
    have := jn_append (y :: r) b (by simp) hb
    rw [List.cons_append, jn_cons _ _ (by simp), this, jn, List.append_assoc]; rfl

theorem step_grow {k k' : List Bs} {s : Bs} (hs : s ≠ [46, 46]) (h : step k s = some k') : ∃ m, k' = k ++ m := by
  unfold step at h
  rw [if_neg hs] at h
  split at h
  · injection h with h; exact ⟨[], by rw [← h]; simp⟩
  · split at h
    · injection h with h; exact ⟨[s], h.symm⟩
    · cases h

theorem run_grow : ∀ (l k k' : List Bs), (∀ x ∈ l, x ≠ [46, 46]) → run k l = some k' → ∃ m, k' = k ++ m
  | [], k, k', _, h => by rw [run] at h; injection h with h; exact ⟨[], by rw [← h]; simp⟩
  | s :: l, k, k', hl, h => by
    rw [run] at h
    cases hs : step k s with
    | none => rw [hs] at h; cases h
    | some k2 =>
      rw [hs] at h
      obtain ⟨m, rfl⟩ := step_grow (hl s (by simp)) hs
      obtain ⟨m2, rfl⟩ := run_grow l _ k' (fun x hx => hl x (by simp [hx])) h
      exact ⟨m ++ m2, by simp⟩

theorem path_ne {p : Bs} (h : chk p = 0) : p ≠ [] := by
  intro e; subst e
  have := (chk_ok.1 h).2
  simp [isPath] at this

theorem path_long {p : Bs} (h : chk p = 0) (h2 : p ≠ [47]) : 1 < p.length := by
  have h1 := (chk_ok.1 h).2
  match p with
  | [] => exact absurd rfl (path_ne h)
  | [c] =>
    simp only [isPath, Bool.or_eq_true, Bool.and_eq_true, beq_iff_eq] at h1
    rcases h1 with h1 | h1
    · exact absurd h1 h2
    · have := h1.1; simp at this; subst this; exact absurd rfl h2
  | c :: d :: l => simp

/-- P4.6 -/
theorem below {root rest p : Bs} (hr : chk root = 0) (ht : ∀ x ∈ spl rest, x ≠ [46, 46]) (h : clean (root ++ 47 :: rest) = (p, 0)) : under root p = true := by
  have hp := clean_chk h
  obtain ⟨_, k, hk, rfl, _, _⟩ := clean_ok h
  obtain ⟨h1, h2, h3⟩ := out_path (chk_ok.1 hr).2
  have et : (root ++ 47 :: rest).tail = root.tail ++ 47 :: rest := by
    cases root with
    | nil => cases h3
    | cons c t => rfl
  rw [et, spl_append, run_append, h1] at hk
  obtain ⟨m, rfl⟩ := run_grow _ _ _ ht hk
  unfold under
  rw [hr, hp]
  by_cases e : root = [47]
  · subst e; simp
  · rw [if_neg e] at h2 ⊢
    by_cases hm : m = []
    · subst hm; rw [List.append_nil, h2]; simp
    · have e3 : out (spl root.tail ++ m) = (root ++ [47]) ++ jn m := by
        have e4 : root = 47 :: jn (spl root.tail) := h2.symm
        unfold out
        rw [jn_append _ _ (spl_ne _) hm]
        conv => rhs; rw [e4]
        simp
      rw [e3]
      simp

/-- P4.7 -/
theorem under_trans {a b c : Bs} (h1 : under a b = true) (h2 : under b c = true) : under a c = true := by
  simp only [under, Bool.and_eq_true, Bool.or_eq_true, decide_eq_true_eq, beq_iff_eq, List.isPrefixOf_iff_prefix] at h1 h2 ⊢
  obtain ⟨⟨ha, hb⟩, h1⟩ := h1
  obtain ⟨⟨_, hc⟩, h2⟩ := h2
  refine ⟨⟨ha, hc⟩, ?_⟩
  rcases h2 with (rfl | rfl) | h2
  · exact h1
  · rcases h1 with (h1 | h1) | h1
    · exact .inl (.inr h1.symm)
    · exact .inl (.inr h1)
    · have := h1.length_le
      have h5 := List.length_pos_iff.2 (path_ne ha)
      rw [List.length_append, List.length_singleton] at this; omega
  · rcases h1 with (rfl | h1) | h1
    · exact .inr h2
    · exact .inl (.inr h1)
    · exact .inr (h1.trans ((List.prefix_append b [47]).trans h2))

/-- what 'under' says, byte by byte -/
theorem under_says {r q : Bs} (h : under r q = true) : r = [47] ∨ q = r ∨ (r.length < q.length ∧ 1 < r.length ∧ q.take r.length = r ∧ q[r.length]? = some 47) := by
  simp only [under, Bool.and_eq_true, Bool.or_eq_true, decide_eq_true_eq, beq_iff_eq, List.isPrefixOf_iff_prefix] at h
  obtain ⟨⟨ha, hb⟩, (h | h) | h⟩ := h
  · exact .inr (.inl h)
  · exact .inl h
  · by_cases e : r = [47]
    · exact .inl e
    · obtain ⟨t, rfl⟩ := h
      refine .inr (.inr ⟨by simp, path_long ha e, by simp, by simp⟩)

theorem permit_says {l : List Bs} {q : Bs} (h : permit l q = true) : ∃ r ∈ l, r = [47] ∨ q = r ∨ (r.length < q.length ∧ 1 < r.length ∧ q.take r.length = r ∧ q[r.length]? = some 47) := by
  obtain ⟨r, hr, h⟩ := List.any_eq_true.1 h
  exact ⟨r, hr, under_says h⟩

/-- no two points: no part is '..' -/
theorem two_cons {b : UInt8} {l : Bs} (h : two (b :: l) = false) : two l = false := by
  cases hl : two l with
  | false => rfl
  | true =>
    unfold two at h
    split at h
    · cases h
    · rename_i h2; injection h2 with h2 h3; subst h3; rw [hl] at h; exact h.symm ▸ rfl
    · rename_i h2; cases h2

theorem no_two : ∀ (l : Bs), two l = false → ∀ x ∈ spl l, ∀ a t, x ≠ a ++ 46 :: 46 :: t
  | [], _, x, h, a, t => by simp [spl] at h; subst h; simp
  | b :: l, h2, x, h, a, t => by
    have ih := no_two l (two_cons h2)
    by_cases hb : b = 47
    · subst hb
      rw [spl_stroke] at h
      rcases List.mem_cons.1 h with rfl | h
      · simp
      · exact ih x h a t
    · obtain ⟨y, r, e, e2⟩ := spl_other hb l
      rw [e2] at h
      rcases List.mem_cons.1 h with rfl | h
      · intro c
        cases a with
        | nil =>
          injection c with c1 c2
          subst c1
          have hl : ∃ l', l = 46 :: l' := by
            have h4 := jn_spl l
            rw [e, c2] at h4
            cases r with
            | nil => exact ⟨t, h4.symm⟩
            | cons z r => exact ⟨_, h4.symm⟩
          obtain ⟨l', rfl⟩ := hl
          simp [two] at h2
        | cons a0 a =>
          injection c with c1 c2
          exact ih y (by rw [e]; simp) a t c2
      · exact ih x (by rw [e]; simp [h]) a t

theorem no_up {l : Bs} (h : two l = false) : ∀ x ∈ spl l, x ≠ [46, 46] := fun x hx => no_two l h x hx [] []

theorem two_of : ∀ (l : Bs), two l = true ↔ ∃ i : Nat, l[i]? = some 46 ∧ l[i + 1]? = some 46
  | [] => by simp [two]
  | b :: l => by
    have ih := two_of l
    constructor
    · intro h
      unfold two at h
      split at h
      · rename_i h2; injection h2 with h2 h3; subst h2; subst h3; exact ⟨0, rfl, rfl⟩
      · rename_i h2; injection h2 with h2 h3; subst h3
        obtain ⟨i, h4, h5⟩ := ih.1 h
        exact ⟨i + 1, h4, h5⟩
      · cases h
    · rintro ⟨i, h1, h2⟩
      cases i with
      | zero =>
        cases l with
        | nil => simp at h2
        | cons c l => simp at h1 h2; subst h1; subst h2; rfl
      | succ i =>
        have : two l = true := ih.2 ⟨i, by simpa using h1, by simpa using h2⟩
        cases hb : two (b :: l) with
        | true => rfl
        | false => rw [two_cons hb] at this; cases this

/-- what strings.Split answers at a stroke -/
theorem splitK_spl : ∀ (l : Bs) (k : Nat), l.count 47 ≤ k → Lib.splitK [47] 0 k l = spl l
  | [], 0, _ => rfl
  | [], k + 1, _ => by unfold Lib.splitK; rw [if_pos (by decide)]; rfl
  | b :: l, k, h => by
    by_cases hb : b = 47
    · subst hb
      rw [List.count_cons_self] at h
      obtain ⟨k, rfl⟩ : ∃ j, k = j + 1 := ⟨k - 1, by omega⟩
      have e : Lib.index (47 :: l) [47] = 0 := by simp [Lib.index]
      unfold Lib.splitK
      rw [if_neg (by rw [e]; decide), e, spl_stroke]
      simp only [Int.toNat_zero, Nat.zero_add, List.length_singleton, List.take_zero, List.drop_succ_cons, List.drop_zero]
      rw [splitK_spl l k (by omega)]
    · rw [List.count_cons_of_ne hb] at h
      have ih := splitK_spl l k h
      obtain ⟨x, t, e, e2⟩ := spl_other hb l
      rw [e2]
      rw [e] at ih
      have hi : Lib.index (b :: l) [47] = if Lib.index l [47] == -1 then -1 else Lib.index l [47] + 1 := by
        conv => lhs; unfold Lib.index
        rw [if_neg (by simp; exact fun c => hb c.symm)]
      have hge := Lib.index_ge l [47]
      cases k with
      | zero =>
        unfold Lib.splitK at ih ⊢
        injection ih with h1 h2
        rw [← h1, ← h2]
      | succ k =>
        unfold Lib.splitK at ih ⊢
        rw [hi]
        by_cases hm : Lib.index l [47] = -1
        · rw [if_pos (by rw [hm]; rfl)] at ih
          rw [if_pos (by rw [hm]; rfl)]
          injection ih with h1 h2
          rw [← h1, ← h2]
        · rw [if_neg (by simpa using hm)] at ih
          have hm2 : ¬ (Lib.index l [47] == -1) = true := by simpa using hm
          rw [if_neg hm2, if_neg (by simp; omega)]
          injection ih with h1 h2
          have e5 : (Lib.index l [47] + 1).toNat = (Lib.index l [47]).toNat + 1 := by omega
          rw [e5, ← h1, ← h2]
          simp

theorem split_spl (s : ByteArray) : (Lib.splitB ⟨#[47]⟩ 0 (Lib.countB s ⟨#[47]⟩) s).map (·.data.toList) = spl s.data.toList := by
  rw [Lib.splitB_data]
  exact splitK_spl _ _ (by show _ ≤ Lib.count s.data.toList [47]; rw [Lib.count_one]; exact Nat.le_refl _)
end Pth
end Go.Proofs.YthjlhbbhdliffaaDoor
