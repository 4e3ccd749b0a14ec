/-
  Paths (layer 4) in plain mathematics, over lists of bytes: parts, a path, the path that a text means, under.
-/
import Derived.Lib.Split
import Derived.Lib.SplitLaws
import Derived.Lib.Join
namespace Go.Proofs.YtmilfamjkiemaaaGreatDoor
open Go.Lib
namespace Pth
abbrev Bs := List UInt8

/-- the texts between the strokes -/
def spl : Bs → List Bs
  | [] => [[]]
  | b :: l => if b = 47 then [] :: spl l else match spl l with
    | [] => [[b]]
    | h :: t => (b :: h) :: t

theorem spl_ne : ∀ l, spl l ≠ []
  | [] => by simp [spl]
  | b :: l => by
    unfold spl
    split
    · simp
    · split <;> simp

theorem spl_stroke (l : Bs) : spl (47 :: l) = [] :: spl l := by simp [spl]
theorem spl_other {b : UInt8} (h : b ≠ 47) (l : Bs) : ∃ x t, spl l = x :: t ∧ spl (b :: l) = (b :: x) :: t := by
  obtain ⟨x, t, e⟩ := List.exists_cons_of_ne_nil (spl_ne l)
  exact ⟨x, t, e, by rw [spl, if_neg h, e]⟩

theorem spl_no : ∀ (l : Bs) (x : Bs), x ∈ spl l → (47 : UInt8) ∉ x
  | [], x, h => by simp [spl] at h; subst h; simp
  | b :: l, x, h => by
    by_cases hb : b = 47
    · subst hb
      rw [spl_stroke] at h
      rcases List.mem_cons.1 h with rfl | h
      · simp
      · exact spl_no l x h
    · obtain ⟨y, t, e, e2⟩ := spl_other hb l
      rw [e2] at h
      rcases List.mem_cons.1 h with rfl | h
      · have := spl_no l y (by rw [e]; simp)
        simp only [List.mem_cons, not_or]
        exact ⟨fun c => hb c.symm, this⟩
      · exact spl_no l x (by rw [e]; simp [h])

theorem spl_append : ∀ (a b : Bs), spl (a ++ 47 :: b) = spl a ++ spl b
  | [], b => by rw [List.nil_append, spl_stroke]; simp [spl]
  | c :: a, b => by
    rw [List.cons_append]
    by_cases hc : c = 47
    · subst hc; rw [spl_stroke, spl_stroke, spl_append a b]; rfl
    · obtain ⟨x, t, e, e2⟩ := spl_other hc a
      obtain ⟨x', t', e', e2'⟩ := spl_other hc (a ++ 47 :: b)
      rw [spl_append a b, e, List.cons_append] at e'
      injection e' with h1 h2
      rw [e2', e2, ← h1, ← h2]; rfl

theorem spl_one : ∀ (a : Bs), (47 : UInt8) ∉ a → spl a = [a]
  | [], _ => rfl
  | c :: a, h => by
    have hc : c ≠ 47 := fun e => h (by simp [e])
    have ha : (47 : UInt8) ∉ a := fun e => h (by simp [e])
    obtain ⟨x, t, e, e2⟩ := spl_other hc a
    rw [spl_one a ha] at e
    injection e with h1 h2
    rw [e2, ← h1, ← h2]

/-- joined again -/
def jn : List Bs → Bs
  | [] => []
  | [x] => x
  | x :: y :: r => x ++ 47 :: jn (y :: r)

theorem jn_cons (x : Bs) (l : List Bs) (h : l ≠ []) : jn (x :: l) = x ++ 47 :: jn l := by
  cases l with
  | nil => exact absurd rfl h
  | cons y r => rfl

theorem jn_spl : ∀ l, jn (spl l) = l
  | [] => rfl
  | b :: l => by
    by_cases hb : b = 47
    · subst hb; rw [spl_stroke, jn_cons _ _ (spl_ne l), jn_spl l]; rfl
    · obtain ⟨x, t, e, e2⟩ := spl_other hb l
      have ih := jn_spl l
      rw [e] at ih
      rw [e2, ← ih]
      cases t with
      | nil => rfl
      | cons y r => rfl

theorem spl_jn : ∀ (l : List Bs), l ≠ [] → (∀ x ∈ l, (47 : UInt8) ∉ x) → spl (jn l) = l
  | [], h, _ => absurd rfl h
  | [x], _, h => spl_one x (h x (by simp))
  | x :: y :: r, _, h => by
    rw [jn, spl_append, spl_one x (h x (by simp)), spl_jn (y :: r) (by simp) (fun z hz => h z (by simp at hz ⊢; exact .inr hz))]; rfl

theorem spl_length : ∀ l : Bs, (spl l).length ≤ l.length + 1
  | [] => by simp [spl]
  | b :: l => by
    have ih := spl_length l
    by_cases hb : b = 47
    · subst hb; rw [spl_stroke]; simp; omega
    · obtain ⟨x, t, e, e2⟩ := spl_other hb l
      rw [e] at ih; rw [e2]; simp at ih ⊢; omega

theorem spl_size : ∀ (l : Bs) (x : Bs), x ∈ spl l → x.length ≤ l.length
  | [], x, h => by simp [spl] at h; subst h; simp
  | b :: l, x, h => by
    by_cases hb : b = 47
    · subst hb
      rw [spl_stroke] at h
      rcases List.mem_cons.1 h with rfl | h
      · simp
      · have := spl_size l x h; simp; omega
    · obtain ⟨y, t, e, e2⟩ := spl_other hb l
      rw [e2] at h
      rcases List.mem_cons.1 h with rfl | h
      · have := spl_size l y (by rw [e]; simp)
        simp; omega
      · have := spl_size l x (by rw [e]; simp [h]); simp; omega

/-- a part, where no stroke is -/
def okb (b : UInt8) : Bool := decide (33 ≤ b.toNat ∧ b.toNat ≤ 126)
def isPart (s : Bs) : Bool := s.all okb && !(s == []) && !(s == [46]) && !(s == [46, 46])
theorem part_ne {s : Bs} (h : isPart s = true) : s ≠ [] ∧ s ≠ [46] ∧ s ≠ [46, 46] := by
  simp only [isPart, Bool.and_eq_true, Bool.not_eq_true', beq_eq_false_iff_ne] at h
  exact ⟨h.1.1.2, h.1.2, h.2⟩

def isPath (p : Bs) : Bool := p == [47] || (p.head? == some 47 && (spl p.tail).all isPart)
def chk (p : Bs) : Nat := if p.length > 40 then 5 else if isPath p then 0 else 3

def step (k : List Bs) (s : Bs) : Option (List Bs) :=
  if s = [] ∨ s = [46] then some k else if s = [46, 46] then some k.dropLast else if isPart s then some (k ++ [s]) else none
def run : List Bs → List Bs → Option (List Bs)
  | k, [] => some k
  | k, s :: l => match step k s with
    | none => none
    | some k' => run k' l
def out (k : List Bs) : Bs := 47 :: jn k
/-- the path that a text means, and the error -/
def clean (p : Bs) : Bs × Nat :=
  if p.length > 300 then ([], 5) else if p.head? = some 47 then
    match run [] (spl p.tail) with
    | none => ([], 3)
    | some k => if (out k).length > 40 then ([], 5) else (out k, 0)
  else ([], 3)
def under (r p : Bs) : Bool := decide (chk r = 0) && decide (chk p = 0) && (p == r || r == [47] || (r ++ [47]).isPrefixOf p)
theorem chk_ok {p : Bs} : chk p = 0 ↔ p.length ≤ 40 ∧ isPath p = true := by
  unfold chk
  split
  · constructor
    · intro h; omega
    · intro h; omega
  · split
    · rename_i h1 h2; exact ⟨fun _ => ⟨by omega, h2⟩, fun _ => rfl⟩
    · rename_i h1 h2; constructor
      · intro h; omega
      · intro h; exact absurd h.2 h2

theorem run_append : ∀ (a b : List Bs) (k : List Bs), run k (a ++ b) = (run k a).bind (run · b)
  | [], b, k => rfl
  | s :: a, b, k => by
    rw [List.cons_append, run, run]
    cases step k s with
    | none => rfl
    | some k' => exact run_append a b k'

theorem step_part {s : Bs} (h : isPart s = true) (k : List Bs) : step k s = some (k ++ [s]) := by
  obtain ⟨h1, h2, h3⟩ := part_ne h
  unfold step
  rw [if_neg (by simp [h1, h2]), if_neg h3, if_pos h]

theorem run_parts : ∀ (a k : List Bs), a.all isPart = true → run k a = some (k ++ a)
  | [], k, _ => by rw [run, List.append_nil]
  | s :: a, k, h => by
    rw [List.all_cons, Bool.and_eq_true] at h
    rw [run, step_part h.1]
    show run (k ++ [s]) a = _
    rw [run_parts a _ h.2, List.append_assoc]; rfl

theorem step_all {k k' : List Bs} {s : Bs} (hk : k.all isPart = true) (h : step k s = some k') : k'.all isPart = true := by
  unfold step at h
  split at h
  · injection h with h; exact h ▸ hk
  · split at h
    · injection h with h; subst h
      rw [List.all_eq_true] at hk ⊢
      exact fun x hx => hk x ((List.dropLast_sublist k).subset hx)
    · split at h
      · rename_i hp; injection h with h; subst h
        rw [List.all_append, hk]; simp [hp]
      · cases h

theorem run_all : ∀ (l k k' : List Bs), k.all isPart = true → run k l = some k' → k'.all isPart = true
  | [], k, k', hk, h => by rw [run] at h; injection h with h; exact h ▸ hk
  | s :: l, k, k', hk, h => by
    rw [run] at h
    cases hs : step k s with
    | none => rw [hs] at h; cases h
    | some k2 => rw [hs] at h; exact run_all l k2 k' (step_all hk hs) h

/-- what is kept has no stroke, where what is gone through has none -/
theorem step_no {k k' : List Bs} {s : Bs} (hk : ∀ x ∈ k, (47 : UInt8) ∉ x) (hs : (47 : UInt8) ∉ s) (h : step k s = some k') : ∀ x ∈ k', (47 : UInt8) ∉ x := by
  unfold step at h
  split at h
  · injection h with h; exact h ▸ hk
  · split at h
    · injection h with h; subst h
      exact fun x hx => hk x ((List.dropLast_sublist k).subset hx)
    · split at h
      · injection h with h; subst h
        intro x hx
        rcases List.mem_append.1 hx with hx | hx
        · exact hk x hx
        · simp at hx; exact hx ▸ hs
      · cases h

theorem run_no : ∀ (l k k' : List Bs), (∀ x ∈ k, (47 : UInt8) ∉ x) → (∀ x ∈ l, (47 : UInt8) ∉ x) → run k l = some k' → ∀ x ∈ k', (47 : UInt8) ∉ x
  | [], k, k', hk, _, h => by rw [run] at h; injection h with h; exact h ▸ hk
  | s :: l, k, k', hk, hl, h => by
    rw [run] at h
    cases hs : step k s with
    | none => rw [hs] at h; cases h
    | some k2 => rw [hs] at h; exact run_no l k2 k' (step_no hk (hl s (by simp)) hs) (fun x hx => hl x (by simp [hx])) h

theorem path_out {k : List Bs} (hp : k.all isPart = true) (hn : ∀ x ∈ k, (47 : UInt8) ∉ x) : isPath (out k) = true := by
  unfold isPath out
  by_cases h : k = []
  · subst h; rfl
  · simp only [List.head?_cons, List.tail_cons]
    rw [spl_jn k h hn, hp]; simp

theorem out_path {p : Bs} (h : isPath p = true) : run [] (spl p.tail) = some (if p = [47] then [] else spl p.tail) ∧ out (if p = [47] then [] else spl p.tail) = p ∧ p.head? = some 47 := by
  unfold isPath at h
  by_cases hp : p = [47]
  · subst hp; exact ⟨rfl, rfl, rfl⟩
  · rw [if_neg hp]
    simp only [Bool.or_eq_true, Bool.and_eq_true, beq_iff_eq] at h
    rcases h with h | ⟨h1, h2⟩
    · exact absurd h hp
    · refine ⟨by rw [run_parts _ _ h2]; rfl, ?_, h1⟩
      unfold out
      rw [jn_spl]
      cases p with
      | nil => cases h1
      | cons c t => simp at h1; rw [h1]; rfl

theorem clean_ok {p q : Bs} (h : clean p = (q, 0)) : p.head? = some 47 ∧ ∃ k, run [] (spl p.tail) = some k ∧ q = out k ∧ q.length ≤ 40 ∧ p.length ≤ 300 := by
  unfold clean at h
  split at h
  · injection h with h1 h2; cases h2
  · rename_i hl
    split at h
    · rename_i h3
      refine ⟨h3, ?_⟩
      split at h
      · injection h with h1 h2; cases h2
      · rename_i k hk
        split at h
        · injection h with h1 h2; cases h2
        · injection h with h1 h2
          exact ⟨k, hk, h1.symm, by rw [← h1]; omega, by omega⟩
    · injection h with h1 h2; cases h2

/-- P4.5: what is answered is a path that may be -/
theorem clean_chk {p q : Bs} (h : clean p = (q, 0)) : chk q = 0 := by
  obtain ⟨_, k, hk, rfl, hl, _⟩ := clean_ok h
  exact chk_ok.2 ⟨hl, path_out (run_all _ _ _ rfl hk) (run_no _ _ _ (by simp) (fun x hx => spl_no _ x hx) hk)⟩

/-- two points one behind the other -/
def two : Bs → Bool
  | 46 :: 46 :: _ => true
  | _ :: l => two l
  | [] => false

theorem jn_append : ∀ (a b : List Bs), a ≠ [] → b ≠ [] → jn (a ++ b) = jn a ++ 47 :: jn b
  | [], _, h, _ => absurd rfl h
  | [x], b, _, hb => by rw [List.singleton_append, jn_cons _ _ hb]; rfl
  | x :: y :: r, b, _, hb => by
    have := jn_append (y :: r) b (by simp) hb
    rw [List.cons_append, jn_cons _ _ (by simp), this, jn, List.append_assoc]; rfl

theorem step_grow {k k' : List Bs} {s : Bs} (hs : s ≠ [46, 46]) (h : step k s = some k') : ∃ m, k' = k ++ m := by
  unfold step at h
  rw [if_neg hs] at h
  split at h
  · injection h with h; exact ⟨[], by rw [← h]; simp⟩
  · split at h
    · injection h with h; exact ⟨[s], h.symm⟩
    · cases h

theorem run_grow : ∀ (l k k' : List Bs), (∀ x ∈ l, x ≠ [46, 46]) → run k l = some k' → ∃ m, k' = k ++ m
  | [], k, k', _, h => by rw [run] at h; injection h with h; exact ⟨[], by rw [← h]; simp⟩
  | s :: l, k, k', hl, h => by
    rw [run] at h
    cases hs : step k s with
    | none => rw [hs] at h; cases h
    | some k2 =>
      rw [hs] at h
      obtain ⟨m, rfl⟩ := step_grow (hl s (by simp)) hs
      obtain ⟨m2, rfl⟩ := run_grow l _ k' (fun x hx => hl x (by simp [hx])) h
      exact ⟨m ++ m2, by simp⟩

/-- P4.6 -/
theorem below {root rest p : Bs} (hr : chk root = 0) (ht : ∀ x ∈ spl rest, x ≠ [46, 46]) (h : clean (root ++ 47 :: rest) = (p, 0)) : under root p = true := by
  have hp := clean_chk h
  obtain ⟨_, k, hk, rfl, _, _⟩ := clean_ok h
  obtain ⟨h1, h2, h3⟩ := out_path (chk_ok.1 hr).2
  have et : (root ++ 47 :: rest).tail = root.tail ++ 47 :: rest := by
    cases root with
    | nil => cases h3
    | cons c t => rfl
  rw [et, spl_append, run_append, h1] at hk
  obtain ⟨m, rfl⟩ := run_grow _ _ _ ht hk
  unfold under
  rw [hr, hp]
  by_cases e : root = [47]
  · subst e; simp
  · rw [if_neg e] at h2 ⊢
    by_cases hm : m = []
    · subst hm; rw [List.append_nil, h2]; simp
    · have e3 : out (spl root.tail ++ m) = (root ++ [47]) ++ jn m := by
        have e4 : root = 47 :: jn (spl root.tail) := h2.symm
        unfold out
        rw [jn_append _ _ (spl_ne _) hm]
        conv => rhs; rw [e4]
        simp
      rw [e3]
      simp

/-- what strings.Split answers at a stroke -/
theorem splitK_spl : ∀ (l : Bs) (k : Nat), l.count 47 ≤ k → Lib.splitK [47] 0 k l = spl l
  | [], 0, _ => rfl
  | [], k + 1, _ => by unfold Lib.splitK; rw [if_pos (by decide)]; rfl
  | b :: l, k, h => by
    by_cases hb : b = 47
    · subst hb
      rw [List.count_cons_self] at h
      obtain ⟨k, rfl⟩ : ∃ j, k = j + 1 := ⟨k - 1, by omega⟩
      have e : Lib.index (47 :: l) [47] = 0 := by simp [Lib.index]
      unfold Lib.splitK
      rw [if_neg (by rw [e]; decide), e, spl_stroke]
      simp only [Int.toNat_zero, Nat.zero_add, List.length_singleton, List.take_zero, List.drop_succ_cons, List.drop_zero]
      rw [splitK_spl l k (by omega)]
    · rw [List.count_cons_of_ne hb] at h
      have ih := splitK_spl l k h
      obtain ⟨x, t, e, e2⟩ := spl_other hb l
      rw [e2]
      rw [e] at ih
      have hi : Lib.index (b :: l) [47] = if Lib.index l [47] == -1 then -1 else Lib.index l [47] + 1 := by
        conv => lhs; unfold Lib.index
        rw [if_neg (by simp; exact fun c => hb c.symm)]
      have hge := Lib.index_ge l [47]
      cases k with
      | zero =>
        unfold Lib.splitK at ih ⊢
        injection ih with h1 h2
        rw [← h1, ← h2]
      | succ k =>
        unfold Lib.splitK at ih ⊢
        rw [hi]
        by_cases hm : Lib.index l [47] = -1
        · rw [if_pos (by rw [hm]; rfl)] at ih
          rw [if_pos (by rw [hm]; rfl)]
          injection ih with h1 h2
          rw [← h1, ← h2]
        · rw [if_neg (by simpa using hm)] at ih
          have hm2 : ¬ (Lib.index l [47] == -1) = true := by simpa using hm
          rw [if_neg hm2, if_neg (by simp; omega)]
          injection ih with h1 h2
          have e5 : (Lib.index l [47] + 1).toNat = (Lib.index l [47]).toNat + 1 := by omega
          rw [e5, ← h1, ← h2]
          simp

theorem split_spl (s : ByteArray) : (Lib.splitB ⟨#[47]⟩ 0 (Lib.countB s ⟨#[47]⟩) s).map (·.data.toList) = spl s.data.toList := by
  rw [Lib.splitB_data]
  exact splitK_spl _ _ (by show _ ≤ Lib.count s.data.toList [47]; rw [Lib.count_one]; exact Nat.le_refl _)
end Pth
end Go.Proofs.YtmilfamjkiemaaaGreatDoor
