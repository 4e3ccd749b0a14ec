/-
  Layer 6: mathematics: files by rising names, what is done to them, and a disk. No program in it. Plain mathematics of layer 1 (octet), first part: what Number and Get answer, as functions on lists of bytes. No program in it.
-/
import Derived.Lib.Bytealg
import Derived.Lib.ItoaNum
namespace Go.Proofs.YtmilfamjkiemaaaGreatDoor
namespace Dsk

/-- a file -/
structure Fl where
  n : ByteArray
  d : ByteArray
  deriving DecidableEq
/-- an operation -/
structure Dop where
  k : Int
  n : ByteArray
  t : ByteArray
  d : ByteArray
  deriving DecidableEq

/-- the names' order -/
def ltL (a b : List UInt8) : Bool := Op.bytesLess a b
theorem ltL_nil (a : List UInt8) : ltL a [] = false := by cases a <;> rfl
theorem ltL_cons (a b : UInt8) (x y : List UInt8) : ltL (a :: x) (b :: y) = (a < b || (a == b && ltL x y)) := rfl
theorem ltL_irrefl : ∀ a : List UInt8, ltL a a = false
  | [] => rfl
  | a :: x => by rw [ltL_cons, ltL_irrefl x]; simp [UInt8.lt_irrefl]
theorem ltL_trans : ∀ {a b c : List UInt8}, ltL a b = true → ltL b c = true → ltL a c = true
  | _, [], _, h, _ => by rw [ltL_nil] at h; cases h
  | _, _ :: _, [], _, h => by rw [ltL_nil] at h; cases h
  | [], _ :: _, _ :: _, _, _ => rfl
  | a :: x, b :: y, c :: z, h, h' => by
    rw [ltL_cons] at *
    simp only [Bool.or_eq_true, Bool.and_eq_true, decide_eq_true_eq, beq_iff_eq] at *
    rcases h with h | ⟨h, h1⟩ <;> rcases h' with h' | ⟨h', h2⟩
    · exact .inl (UInt8.lt_trans h h')
    · subst h'; exact .inl h
    · subst h; exact .inl h'
    · subst h h'; exact .inr ⟨rfl, ltL_trans h1 h2⟩
theorem ltL_total : ∀ {a b : List UInt8}, ltL a b = false → a ≠ b → ltL b a = true
  | [], [], _, h => absurd rfl h
  | [], _ :: _, h, _ => by cases h
  | _ :: _, [], _, _ => rfl
  | a :: x, b :: y, h, h' => by
    rw [ltL_cons] at *
    simp only [Bool.or_eq_false_iff, Bool.and_eq_false_imp, decide_eq_false_iff_not, beq_iff_eq] at h
    simp only [Bool.or_eq_true, Bool.and_eq_true, decide_eq_true_eq, beq_iff_eq]
    by_cases e : a = b
    · subst e
      exact .inr ⟨rfl, ltL_total (h.2 rfl) (fun c => h' (by rw [c]))⟩
    · exact .inl (UInt8.lt_of_le_of_ne (UInt8.not_lt.1 h.1) (Ne.symm e))
theorem cmp_lt : ∀ a b : List UInt8, decide (Lib.compareBytes a b < 0) = ltL a b
  | [], [] => rfl
  | [], _ :: _ => rfl
  | _ :: _, [] => rfl
  | a :: x, b :: y => by
    rw [ltL_cons, Lib.compareBytes, ← cmp_lt x y]
    by_cases h : a < b
    · simp [h]
    · by_cases h' : b < a
      · have : ¬ a = b := fun e => by subst e; exact UInt8.lt_irrefl _ h'
        simp [h, h', this]
      · have : a = b := UInt8.le_antisymm (UInt8.not_lt.1 h') (UInt8.not_lt.1 h)
        simp [this, UInt8.lt_irrefl]
theorem cmp_eq : ∀ a b : List UInt8, Lib.compareBytes a b = 0 ↔ a = b
  | [], [] => by simp [Lib.compareBytes]
  | [], _ :: _ => by simp [Lib.compareBytes]
  | _ :: _, [] => by simp [Lib.compareBytes]
  | a :: x, b :: y => by
    rw [Lib.compareBytes]
    by_cases h : a < b
    · have : ¬ a = b := fun e => by subst e; exact UInt8.lt_irrefl _ h
      simp [h, this]
    · by_cases h' : b < a
      · have : ¬ a = b := fun e => by subst e; exact UInt8.lt_irrefl _ h'
        simp [h, h', this]
      · have : a = b := UInt8.le_antisymm (UInt8.not_lt.1 h') (UInt8.not_lt.1 h)
        simp [this, UInt8.lt_irrefl, cmp_eq x y]

def lt (a b : ByteArray) : Bool := ltL a.data.toList b.data.toList
theorem ba_ext {a b : ByteArray} (h : a.data.toList = b.data.toList) : a = b := by
  obtain ⟨⟨a⟩⟩ := a; obtain ⟨⟨b⟩⟩ := b; simp at h; rw [h]
theorem lt_irrefl (a : ByteArray) : lt a a = false := ltL_irrefl _
theorem lt_trans {a b c : ByteArray} (h : lt a b = true) (h' : lt b c = true) : lt a c = true := ltL_trans h h'
theorem lt_total {a b : ByteArray} (h : lt a b = false) (h' : a ≠ b) : lt b a = true := ltL_total h (fun e => h' (ba_ext e))
theorem lt_ne {a b : ByteArray} (h : lt a b = true) : a ≠ b := fun e => by subst e; rw [lt_irrefl] at h; cases h
theorem lt_asymm {a b : ByteArray} (h : lt a b = true) : lt b a = false := by
  cases e : lt b a
  · rfl
  · have := lt_trans h e; rw [lt_irrefl] at this; cases this
/-- how many files stand ahead of a name -/
def pos : List Fl → ByteArray → Nat
  | [], _ => 0
  | x :: l, n => if lt x.n n = true then pos l n + 1 else 0
/-- a file's bytes -/
def get : List Fl → ByteArray → Option ByteArray
  | [], _ => none
  | x :: l, n => if lt x.n n = true then get l n else if x.n = n then some x.d else none
/-- a file among rising ones -/
def put : List Fl → Fl → List Fl
  | [], f => [f]
  | x :: l, f => if lt x.n f.n = true then x :: put l f else if x.n = f.n then f :: l else f :: x :: l
/-- without a name -/
def cut : List Fl → ByteArray → List Fl
  | [], _ => []
  | x :: l, n => if lt x.n n = true then x :: cut l n else if x.n = n then l else x :: l
/-- rising names -/
def Srt (l : List Fl) : Prop := l.Pairwise fun a b => lt a.n b.n = true

theorem pos_le : ∀ (l : List Fl) (n : ByteArray), pos l n ≤ l.length
  | [], _ => Nat.le_refl _
  | x :: l, n => by rw [pos]; split <;> simp [pos_le l n]
theorem pos_ahead : ∀ (l : List Fl) (n : ByteArray) (i : Nat) (h : i < l.length), i < pos l n → lt l[i].n n = true
  | [], _, i, h, _ => by simp at h
  | x :: l, n, i, h, h' => by
    rw [pos] at h'
    split at h'
    · next hx =>
      cases i with
      | zero => exact hx
      | succ i => exact pos_ahead l n i (by simpa using h) (by omega)
    · omega
theorem pos_at : ∀ (l : List Fl) (n : ByteArray) (h : pos l n < l.length), lt l[pos l n].n n = false
  | [], _, h => by simp at h
  | x :: l, n, h => by
    by_cases hx : lt x.n n = true
    · have e : pos (x :: l) n = pos l n + 1 := by rw [pos, if_pos hx]
      have h' : pos l n < l.length := by rw [e] at h; simpa using h
      have := pos_at l n h'
      simpa [e] using this
    · have e : pos (x :: l) n = 0 := by rw [pos, if_neg hx]
      simpa [e] using hx
/-- the place is the only one of its kind -/
theorem pos_uniq {l : List Fl} {n : ByteArray} {p : Nat} (hp : p ≤ l.length) (h1 : ∀ (i : Nat) (h : i < l.length), i < p → lt l[i].n n = true) (h2 : ∀ h : p < l.length, lt l[p].n n = false) : p = pos l n := by
  rcases Nat.lt_trichotomy p (pos l n) with h | h | h
  · have hl := pos_le l n
    have := pos_ahead l n p (by omega) h
    rw [h2 (by omega)] at this; cases this
  · exact h
  · have := h1 (pos l n) (by omega) h
    rw [pos_at l n (by omega)] at this; cases this
theorem get_pos : ∀ (l : List Fl) (n : ByteArray), get l n = match l[pos l n]? with | some f => if f.n = n then some f.d else none | none => none
  | [], _ => rfl
  | x :: l, n => by
    by_cases hx : lt x.n n = true
    · have e : pos (x :: l) n = pos l n + 1 := by rw [pos, if_pos hx]
      rw [get, if_pos hx, get_pos l n, e, List.getElem?_cons_succ]
    · have e : pos (x :: l) n = 0 := by rw [pos, if_neg hx]
      rw [get, if_neg hx, e]; rfl
theorem get_some_iff {l : List Fl} {n d : ByteArray} : get l n = some d ↔ ∃ h : pos l n < l.length, l[pos l n].n = n ∧ l[pos l n].d = d := by
  rw [get_pos]
  constructor
  · intro h
    split at h
    · next f hf =>
      obtain ⟨h', e⟩ := List.getElem?_eq_some_iff.1 hf
      split at h
      · next hn => exact ⟨h', by rw [e]; exact hn, by rw [e]; injection h⟩
      · cases h
    · cases h
  · rintro ⟨h, h1, h2⟩
    rw [List.getElem?_eq_getElem h]
    simp [h1, h2]
theorem put_there : ∀ (l : List Fl) (f : Fl), get l f.n ≠ none → put l f = l.set (pos l f.n) f
  | [], _, h => absurd rfl h
  | x :: l, f, h => by
    rw [get] at h
    rw [put, pos]
    by_cases hx : lt x.n f.n = true
    · rw [if_pos hx] at *; rw [if_pos hx, List.set_cons_succ, put_there l f h]
    · rw [if_neg hx] at *; rw [if_neg hx]
      by_cases e : x.n = f.n
      · rw [if_pos e]; rfl
      · rw [if_neg e] at h; exact absurd rfl h
theorem put_new : ∀ (l : List Fl) (f : Fl), get l f.n = none → put l f = l.take (pos l f.n) ++ f :: l.drop (pos l f.n)
  | [], _, _ => rfl
  | x :: l, f, h => by
    rw [get] at h
    rw [put, pos]
    by_cases hx : lt x.n f.n = true
    · rw [if_pos hx] at *; rw [if_pos hx, List.take_succ_cons, List.drop_succ_cons, put_new l f h]; rfl
    · rw [if_neg hx] at *; rw [if_neg hx]
      by_cases e : x.n = f.n
      · rw [if_pos e] at h; cases h
      · rw [if_neg e]; rfl
theorem cut_there : ∀ (l : List Fl) (n : ByteArray), get l n ≠ none → cut l n = l.take (pos l n) ++ l.drop (pos l n + 1)
  | [], _, h => absurd rfl h
  | x :: l, n, h => by
    rw [get] at h
    rw [cut, pos]
    by_cases hx : lt x.n n = true
    · rw [if_pos hx] at *; rw [if_pos hx, List.take_succ_cons, List.drop_succ_cons, cut_there l n h]; rfl
    · rw [if_neg hx] at *; rw [if_neg hx]
      by_cases e : x.n = n
      · rw [if_pos e]; rfl
      · rw [if_neg e] at h; exact absurd rfl h
theorem cut_none : ∀ (l : List Fl) (n : ByteArray), get l n = none → cut l n = l
  | [], _, _ => rfl
  | x :: l, n, h => by
    rw [get] at h
    rw [cut]
    by_cases hx : lt x.n n = true
    · rw [if_pos hx] at *; rw [cut_none l n h]
    · rw [if_neg hx] at *
      by_cases e : x.n = n
      · rw [if_pos e] at h; cases h
      · rw [if_neg e]

/-- nothing is there below all names -/
theorem get_low : ∀ {l : List Fl} {n : ByteArray}, (∀ x ∈ l, lt n x.n = true) → get l n = none
  | [], _, _ => rfl
  | x :: l, n, h => by
    have hx := h x (List.mem_cons_self ..)
    rw [get, if_neg (by rw [lt_asymm hx]; simp), if_neg (Ne.symm (lt_ne hx))]
theorem put_mem : ∀ {l : List Fl} {f x : Fl}, x ∈ put l f → x = f ∨ x ∈ l
  | [], f, x, h => by rw [put] at h; exact .inl (by simpa using h)
  | y :: l, f, x, h => by
    rw [put] at h
    split at h
    · rcases List.mem_cons.1 h with h | h
      · exact .inr (by rw [h]; exact List.mem_cons_self ..)
      · rcases put_mem h with h | h
        · exact .inl h
        · exact .inr (List.mem_cons_of_mem _ h)
    · split at h
      · rcases List.mem_cons.1 h with h | h
        · exact .inl h
        · exact .inr (List.mem_cons_of_mem _ h)
      · rcases List.mem_cons.1 h with h | h
        · exact .inl h
        · exact .inr h
theorem cut_mem : ∀ {l : List Fl} {n : ByteArray} {x : Fl}, x ∈ cut l n → x ∈ l
  | [], _, _, h => h
  | y :: l, n, x, h => by
    rw [cut] at h
    split at h
    · rcases List.mem_cons.1 h with h | h
      · rw [h]; exact List.mem_cons_self ..
      · exact List.mem_cons_of_mem _ (cut_mem h)
    · split at h
      · exact List.mem_cons_of_mem _ h
      · exact h
theorem put_srt : ∀ {l : List Fl} (f : Fl), Srt l → Srt (put l f)
  | [], f, _ => List.pairwise_singleton _ _
  | y :: l, f, h => by
    obtain ⟨h1, h2⟩ := List.pairwise_cons.1 h
    rw [put]
    split
    · next hy => exact List.pairwise_cons.2 ⟨fun x hx => by rcases put_mem hx with e | e; (· rw [e]; exact hy); exact h1 x e, put_srt f h2⟩
    · next hy =>
      split
      · next e => exact List.pairwise_cons.2 ⟨fun x hx => by rw [← e]; exact h1 x hx, h2⟩
      · next e =>
        have hf : lt f.n y.n = true := lt_total (by simpa using hy) e
        exact List.pairwise_cons.2 ⟨fun x hx => by rcases List.mem_cons.1 hx with e | e; (· rw [e]; exact hf); exact lt_trans hf (h1 x e), h⟩
theorem cut_srt : ∀ {l : List Fl} (n : ByteArray), Srt l → Srt (cut l n)
  | [], _, h => h
  | y :: l, n, h => by
    obtain ⟨h1, h2⟩ := List.pairwise_cons.1 h
    rw [cut]
    split
    · exact List.pairwise_cons.2 ⟨fun x hx => h1 x (cut_mem hx), cut_srt n h2⟩
    · split
      · exact h2
      · exact h
theorem get_put : ∀ {l : List Fl} (f : Fl) (n : ByteArray), Srt l → get (put l f) n = if f.n = n then some f.d else get l n
  | [], f, n, _ => by
    rw [put, get, get]
    by_cases e : f.n = n
    · rw [e, if_neg (by rw [lt_irrefl]; simp)]
    · rw [if_neg e]; simp [get]
  | y :: l, f, n, h => by
    obtain ⟨h1, h2⟩ := List.pairwise_cons.1 h
    have ih := get_put f n h2
    rw [put]
    split
    · next hy =>
      rw [get, ih]
      by_cases e : f.n = n
      · subst e; rw [if_pos hy]; simp
      · rw [if_neg e, get]; simp [e]
    · next hy =>
      split
      · next e =>
        rw [get, get, e]
        by_cases e' : f.n = n
        · rw [if_pos e', if_neg (by rw [e', lt_irrefl]; simp), if_pos e']
        · rw [if_neg e', if_neg e', if_neg e']
      · next e =>
        have hf : lt f.n y.n = true := lt_total (by simpa using hy) e
        rw [get]
        by_cases e' : f.n = n
        · rw [if_pos e', if_pos e', if_neg (by rw [e', lt_irrefl]; simp)]
        · rw [if_neg e', if_neg e']
          split
          · rfl
          · next hn =>
            have hn' : lt n f.n = true := lt_total (by simpa using hn) e'
            exact (get_low (fun x hx => by rcases List.mem_cons.1 hx with c | c; (· rw [c]; exact lt_trans hn' hf); exact lt_trans hn' (lt_trans hf (h1 x c)))).symm
theorem get_cut : ∀ {l : List Fl} (m n : ByteArray), Srt l → get (cut l m) n = if m = n then none else get l n
  | [], m, n, _ => by simp [cut, get]
  | y :: l, m, n, h => by
    obtain ⟨h1, h2⟩ := List.pairwise_cons.1 h
    have ih := get_cut m n h2
    rw [cut]
    split
    · next hy =>
      rw [get, ih, get]
      by_cases e : m = n
      · subst e; simp [hy]
      · simp [e]
    · next hy =>
      split
      · next e =>
        subst e
        rw [get]
        by_cases e' : y.n = n
        · rw [if_pos e']; subst e'; exact get_low h1
        · rw [if_neg e']
          split
          · rfl
          · next hn =>
            have hn' : lt n y.n = true := lt_total (by simpa using hn) e'
            exact get_low (fun x hx => lt_trans hn' (h1 x hx))
      · next e =>
        by_cases e' : m = n
        · subst e'; rw [if_pos rfl, get, if_neg hy, if_neg e]
        · rw [if_neg e']

/-- files behind an operation -/
def after (l : List Fl) (o : Dop) : List Fl :=
  if o.k = 1 then put l ⟨o.n, o.d⟩
  else if o.k = 2 then put l ⟨o.n, ((get l o.n).getD ByteArray.empty) ++ o.d⟩
  else if o.k = 3 then match get l o.n with
    | none => l
    | some d => if o.n = o.t then l else put (cut l o.n) ⟨o.t, d⟩
  else if o.k = 4 then cut l o.n
  else l
def behind (l : List Fl) (ops : List Dop) : List Fl := ops.foldl after l
theorem after_srt {l : List Fl} (o : Dop) (h : Srt l) : Srt (after l o) := by
  unfold after
  split
  · exact put_srt _ h
  · split
    · exact put_srt _ h
    · split
      · split
        · exact h
        · split
          · exact h
          · exact put_srt _ (cut_srt _ h)
      · split
        · exact cut_srt _ h
        · exact h
theorem behind_srt : ∀ {l : List Fl} (ops : List Dop), Srt l → Srt (behind l ops)
  | _, [], h => h
  | l, o :: ops, h => behind_srt (l := after l o) ops (after_srt o h)
theorem behind_snoc (l : List Fl) (ops : List Dop) (o : Dop) : behind l (ops ++ [o]) = after (behind l ops) o := by
  unfold behind; rw [List.foldl_append]; rfl
/-- no other file is touched -/
theorem after_other {l : List Fl} (o : Dop) (n : ByteArray) (h : Srt l) (h1 : o.n ≠ n) (h2 : o.t ≠ n) : get (after l o) n = get l n := by
  unfold after
  split
  · rw [get_put _ _ h]; exact if_neg h1
  · split
    · rw [get_put _ _ h]; exact if_neg h1
    · split
      · split
        · rfl
        · split
          · rfl
          · rw [get_put _ _ (cut_srt _ h), if_neg h2, get_cut _ _ h, if_neg h1]
      · split
        · rw [get_cut _ _ h, if_neg h1]
        · rfl
theorem behind_other : ∀ {l : List Fl} (ops : List Dop) (n : ByteArray), Srt l → (∀ o ∈ ops, o.n ≠ n ∧ o.t ≠ n) → get (behind l ops) n = get l n
  | _, [], _, _, _ => rfl
  | l, o :: ops, n, h, hn => by
    have := behind_other (l := after l o) ops n (after_srt o h) (fun x hx => hn x (List.mem_cons_of_mem _ hx))
    show get (behind (after l o) ops) n = _
    rw [this, after_other o n h (hn o (List.mem_cons_self ..)).1 (hn o (List.mem_cons_self ..)).2]

/-- the room that files take -/
def used : List Fl → Nat
  | [] => 0
  | x :: l => x.d.size + 16 + used l
theorem used_append : ∀ a b : List Fl, used (a ++ b) = used a + used b
  | [], b => by simp [used]
  | x :: a, b => by rw [List.cons_append, used, used, used_append a b]; omega
theorem used_put : ∀ (l : List Fl) (f : Fl), used (put l f) ≤ used l + f.d.size + 16
  | [], f => by simp [put, used]
  | x :: l, f => by
    have := used_put l f
    rw [put]
    split
    · simp only [used]; omega
    · split
      · simp only [used]; omega
      · simp only [used]; omega
theorem used_cut_le : ∀ (l : List Fl) (n : ByteArray), used (cut l n) ≤ used l
  | [], _ => Nat.le_refl _
  | x :: l, n => by
    have := used_cut_le l n
    rw [cut]
    split
    · simp only [used]; omega
    · split
      · simp only [used]; omega
      · exact Nat.le_refl _
theorem used_cut : ∀ (l : List Fl) (n d : ByteArray), get l n = some d → used (cut l n) + d.size + 16 = used l
  | [], _, _, h => by cases h
  | x :: l, n, d, h => by
    rw [get] at h
    rw [cut]
    split at h
    · next hx => have := used_cut l n d h; rw [if_pos hx]; simp only [used]; omega
    · next hx =>
      split at h
      · next e => rw [if_neg hx, if_pos e]; injection h with h; subst h; simp only [used]; omega
      · cases h
/-- what asks for no room takes none -/
theorem used_after {l : List Fl} (o : Dop) (h : o.k ≠ 1) (h' : o.k ≠ 2) : used (after l o) ≤ used l := by
  unfold after
  rw [if_neg h, if_neg h']
  split
  · split
    · exact Nat.le_refl _
    · next d hd =>
      split
      · exact Nat.le_refl _
      · have h1 := used_put (cut l o.n) ⟨o.t, d⟩
        have h2 := used_cut l o.n d hd
        simp only at h1; omega
  · split
    · exact used_cut_le _ _
    · exact Nat.le_refl _
/-- the weight of what is done: no file gets longer than that -/
def wt : List Dop → Nat
  | [] => 0
  | o :: l => o.d.size + 16 + wt l
theorem wt_append : ∀ a b : List Dop, wt (a ++ b) = wt a + wt b
  | [], b => by simp [wt]
  | x :: a, b => by rw [List.cons_append, wt, wt, wt_append a b]; omega
theorem get_used : ∀ {l : List Fl} {n d : ByteArray}, get l n = some d → d.size + 16 ≤ used l
  | [], _, _, h => by cases h
  | x :: l, n, d, h => by
    rw [get] at h
    split at h
    · have := get_used h; simp only [used]; omega
    · split at h
      · injection h with h; subst h; simp only [used]; omega
      · cases h
theorem used_put_some : ∀ (l : List Fl) (f : Fl) (d : ByteArray), get l f.n = some d → used (put l f) + d.size = used l + f.d.size
  | [], _, _, h => by cases h
  | x :: l, f, d, h => by
    rw [get] at h
    rw [put]
    split at h
    · next hx => have := used_put_some l f d h; rw [if_pos hx]; simp only [used]; omega
    · next hx =>
      split at h
      · next e => rw [if_neg hx, if_pos e]; injection h with h; subst h; simp only [used]; omega
      · cases h
theorem used_after_le (l : List Fl) (o : Dop) : used (after l o) ≤ used l + o.d.size + 16 := by
  by_cases h1 : o.k = 1
  · unfold after; rw [if_pos h1]; exact used_put _ _
  · by_cases h2 : o.k = 2
    · unfold after
      rw [if_neg h1, if_pos h2]
      cases hg : get l o.n with
      | none => have := used_put l ⟨o.n, (Option.getD none ByteArray.empty) ++ o.d⟩; simpa using this
      | some d =>
        have := used_put_some l ⟨o.n, d ++ o.d⟩ d hg
        simp only [ByteArray.size_append] at this
        simp only [Option.getD_some]; omega
    · have := used_after (l := l) o h1 h2; omega
theorem used_behind : ∀ (l : List Fl) (ops : List Dop), used (behind l ops) ≤ used l + wt ops
  | l, [] => Nat.le_refl _
  | l, o :: ops => by
    have h1 := used_behind (after l o) ops
    have h2 := used_after_le l o
    show used (behind (after l o) ops) ≤ _
    rw [wt]; omega
theorem len_used : ∀ l : List Fl, l.length * 16 ≤ used l
  | [] => Nat.le_refl _
  | x :: l => by have := len_used l; simp only [List.length_cons, used]; omega
theorem len_wt : ∀ l : List Dop, l.length * 16 ≤ wt l
  | [] => Nat.le_refl _
  | x :: l => by have := len_wt l; simp only [List.length_cons, wt]; omega
end Dsk
end Go.Proofs.YtmilfamjkiemaaaGreatDoor

namespace Go.Proofs.YtmilfamjkiemaaaGreatDoor
namespace Oct

def isDig (c : UInt8) : Bool := decide (48 ≤ c.toNat ∧ c.toNat ≤ 57)
theorem isDig_true {c : UInt8} (h0 : 48 ≤ (c.toNat : Int)) (h1 : (c.toNat : Int) ≤ 57) : isDig c = true := by
  unfold isDig; exact decide_eq_true ⟨by omega, by omega⟩
theorem isDig_low {c : UInt8} (h : (c.toNat : Int) < 48) : isDig c = false := by
  unfold isDig; exact decide_eq_false (by omega)
theorem isDig_high {c : UInt8} (h : 57 < (c.toNat : Int)) : isDig c = false := by
  unfold isDig; exact decide_eq_false (by omega)
theorem isDig_le {c : UInt8} (h : isDig c = true) : 48 ≤ c.toNat ∧ c.toNat ≤ 57 := of_decide_eq_true h

def areDig (l : List UInt8) : Bool := l.all isDig && !l.isEmpty
def numTo (l : List UInt8) : Nat := l.foldl (fun n c => n * 10 + (c.toNat - 48)) 0
theorem numTo_snoc (l : List UInt8) (c : UInt8) : numTo (l ++ [c]) = numTo l * 10 + (c.toNat - 48) := by
  unfold numTo; rw [List.foldl_append]; rfl
theorem numTo_nil : numTo [] = 0 := rfl

theorem take_snoc (s : ByteArray) (k : Nat) (h : k < s.size) : s.data.toList.take (k + 1) = s.data.toList.take k ++ [s[k]] := by
  rw [List.take_succ_eq_append_getElem (by simpa using h)]; rfl
theorem take_all (s : ByteArray) (k : Nat) (h : s.size ≤ k) : s.data.toList.take k = s.data.toList := by
  rw [List.take_of_length_le (by simpa using h)]
theorem all_snoc (s : ByteArray) (k : Nat) (h : k < s.size) (h1 : (s.data.toList.take k).all isDig = true) (h2 : isDig s[k] = true) :
    (s.data.toList.take (k + 1)).all isDig = true := by
  rw [take_snoc s k h, List.all_append, h1]; simp [h2]
theorem mem_at (s : ByteArray) (k : Nat) (h : k < s.size) : s[k] ∈ s.data.toList := by
  have e : s[k] = s.data.toList[k]'(by simpa using h) := rfl
  rw [e]; exact List.getElem_mem _
theorem all_not (s : ByteArray) (k : Nat) (h : k < s.size) (h2 : isDig s[k] = false) : s.data.toList.all isDig = false := by
  rw [List.all_eq_false]; exact ⟨s[k], mem_at s k h, by simp [h2]⟩
theorem areDig_not (s : ByteArray) (k : Nat) (h : k < s.size) (h2 : isDig s[k] = false) : areDig s.data.toList = false := by
  unfold areDig; rw [all_not s k h h2]; rfl
theorem foldNum_lt : ∀ (l : List UInt8) (a : Nat), l.all isDig = true → l.foldl (fun n c => n * 10 + (c.toNat - 48)) a < (a + 1) * 10 ^ l.length
  | [], a, _ => by simp
  | c :: l, a, h => by
    rw [List.all_cons, Bool.and_eq_true] at h
    have h2 := isDig_le h.1
    have h1 := foldNum_lt l (a * 10 + (c.toNat - 48)) h.2
    rw [List.foldl_cons, List.length_cons, Nat.pow_succ]
    refine Nat.lt_of_lt_of_le h1 ?_
    rw [Nat.mul_comm (10 ^ l.length) 10, ← Nat.mul_assoc]
    exact Nat.mul_le_mul_right _ (by omega)
theorem numTo_lt (l : List UInt8) (h : l.all isDig = true) : numTo l < 10 ^ l.length := by
  have := foldNum_lt l 0 h
  unfold numTo; simpa using this
/-- P1.2: the number that a text says, and the error's number. -/
def number (l : List UInt8) : Nat × Nat :=
  if areDig l = false ∨ (1 < l.length ∧ l.headD 0 = 48) then (0, 3)
  else if 13 < l.length then (0, 5) else if 1099511627776 < numTo l then (0, 5) else (numTo l, 0)
theorem number_form {l : List UInt8} (h : areDig l = false) : number l = (0, 3) := by unfold number; rw [if_pos (Or.inl h)]
theorem number_zero {l : List UInt8} (h : 1 < l.length) (h0 : l.headD 0 = 48) : number l = (0, 3) := by unfold number; rw [if_pos (Or.inr ⟨h, h0⟩)]
theorem number_else {l : List UInt8} (h : areDig l = true) (h0 : ¬ (1 < l.length ∧ l.headD 0 = 48)) :
    number l = if 13 < l.length then (0, 5) else if 1099511627776 < numTo l then (0, 5) else (numTo l, 0) := by
  unfold number; rw [if_neg (by simp only [h, Bool.true_eq_false, false_or]; exact h0)]
theorem headD_getElem : ∀ (l : List UInt8) (h : 0 < l.length), l.headD 0 = l[0]
  | [], h => by simp at h
  | a :: r, _ => rfl
theorem headD_at (s : ByteArray) (h : 0 < s.size) : s.data.toList.headD 0 = s[0] :=
  headD_getElem s.data.toList (by simpa using h)
theorem len_eq (s : ByteArray) : s.data.toList.length = s.size := Array.length_toList
theorem areDig_pos {l : List UInt8} (h : areDig l = true) : 0 < l.length := by
  unfold areDig at h; cases l with
  | nil => simp at h
  | cons a r => simp
theorem areDig_all {l : List UInt8} (h : areDig l = true) : l.all isDig = true := by
  unfold areDig at h; rw [Bool.and_eq_true] at h; exact h.1
theorem areDig_mk {l : List UInt8} (h : l.all isDig = true) (h0 : 0 < l.length) : areDig l = true := by
  unfold areDig; rw [h]; cases l with
  | nil => simp at h0
  | cons a r => rfl
theorem take_dig (s : ByteArray) (k : Nat) (h : k < s.size) (ha : s.data.toList.all isDig = true) : isDig s[k] = true :=
  List.all_eq_true.1 ha _ (mem_at s k h)
theorem numTo_take (s : ByteArray) (k : Nat) (h : k < s.size) (ha : s.data.toList.all isDig = true) :
    (numTo (s.data.toList.take (k + 1)) : Int) = (numTo (s.data.toList.take k) : Int) * 10 + ((s[k].toNat : Int) - 48) := by
  have h1 := isDig_le (take_dig s k h ha)
  rw [take_snoc s k h, numTo_snoc]; omega
theorem numTo_take_lt (s : ByteArray) (k : Nat) (hk : k ≤ 13) (ha : s.data.toList.all isDig = true) : numTo (s.data.toList.take k) < 10000000000000 := by
  have h1 : (s.data.toList.take k).all isDig = true := by
    rw [List.all_eq_true] at ha ⊢; intro x hx; exact ha x (List.mem_of_mem_take hx)
  have h2 := numTo_lt _ h1
  have h3 : (s.data.toList.take k).length ≤ 13 := by simp; omega
  have h4 : (10 : Nat) ^ (s.data.toList.take k).length ≤ 10 ^ 13 := Nat.pow_le_pow_right (by omega) h3
  have h5 : (10 : Nat) ^ 13 = 10000000000000 := by decide
  omega
end Oct
end Go.Proofs.YtmilfamjkiemaaaGreatDoor
