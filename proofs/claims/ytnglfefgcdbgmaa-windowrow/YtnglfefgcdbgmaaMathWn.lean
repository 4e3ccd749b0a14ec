/-
  Mathematics of layer 14: windows of numbers that begin anew.
-/
import Derived.Test.YtnglfefgcdbgmaaProg
namespace Go.Proofs.Ytnglfefgcdbgmaa
namespace Wn
/-- How many steps lead from a to b, modulo m; -1 where these may not be. -/
def ahead (a b m : Int) : Int := if 2 ≤ m ∧ m ≤ 64 ∧ 0 ≤ a ∧ a < m ∧ 0 ≤ b ∧ b < m then (if a ≤ b then b - a else b - a + m) else -1
/-- A window. -/
structure W where
  md : Int
  sz : Int
  bs : Int
  l : List ByteArray
def zero : W := ⟨0, 0, 0, []⟩
def fit (m s b : Int) : Prop := 2 ≤ m ∧ m ≤ 64 ∧ 1 ≤ s ∧ s < m ∧ 0 ≤ b ∧ b < m
theorem fit_dec (m s b : Int) : fit m s b ∨ ¬ fit m s b := by unfold fit; omega
def begin_ (m s b : Int) : W × Nat := if 2 ≤ m ∧ m ≤ 64 ∧ 1 ≤ s ∧ s < m ∧ 0 ≤ b ∧ b < m then (⟨m, s, b, []⟩, 0) else (zero, 1)
def rt (w : W) : Bool := decide (2 ≤ w.md ∧ w.md ≤ 64 ∧ 1 ≤ w.sz ∧ w.sz < w.md ∧ 0 ≤ w.bs ∧ w.bs < w.md ∧ (w.l.length : Int) ≤ w.sz)
def num (w : W) (i : Nat) : Int := (w.bs + i) % w.md
/-- Put: the window, the number, the error. -/
def put (w : W) (s : ByteArray) : W × Int × Nat := if rt w = true then (if (w.l.length : Int) = w.sz then (w, 0, 8) else ({ w with l := w.l ++ [s] }, num w w.l.length, 0)) else (w, 0, 1)
/-- The place of a number among what waits. -/
def place (w : W) (n : Int) : Option Nat := if rt w = true ∧ 0 ≤ ahead w.bs n w.md ∧ ahead w.bs n w.md < w.l.length then some (ahead w.bs n w.md).toNat else none
/-- Ack: the window, how many went. -/
def ack (w : W) (n : Int) : W × Nat := match place w n with
  | some k => ({ w with bs := (n + 1) % w.md, l := w.l.drop (k + 1) }, k + 1)
  | none => (w, 0)
def find (w : W) (n : Int) : Option ByteArray := (place w n).bind fun k => w.l[k]?
def nums (w : W) : List Int := if rt w = true then (List.range w.l.length).map (num w) else []
theorem ahead_no {a b m : Int} (h : ¬ (2 ≤ m ∧ m ≤ 64 ∧ 0 ≤ a ∧ a < m ∧ 0 ≤ b ∧ b < m)) : ahead a b m = -1 := if_neg h
theorem ahead_eq {a b m : Int} (h : 2 ≤ m ∧ m ≤ 64 ∧ 0 ≤ a ∧ a < m ∧ 0 ≤ b ∧ b < m) : ahead a b m = (b - a + m) % m := by
  unfold ahead
  rw [if_pos h]
  split
  · rw [show b - a + m = (b - a) + m by omega, Int.add_emod_right, Int.emod_eq_of_lt (by omega) (by omega)]
  · rw [Int.emod_eq_of_lt (by omega) (by omega)]
theorem ahead_lt {a b m : Int} (h : 2 ≤ m ∧ m ≤ 64 ∧ 0 ≤ a ∧ a < m ∧ 0 ≤ b ∧ b < m) : 0 ≤ ahead a b m ∧ ahead a b m < m := by
  unfold ahead
  rw [if_pos h]
  split <;> omega
theorem rt_parts {w : W} (h : rt w = true) : 2 ≤ w.md ∧ w.md ≤ 64 ∧ 1 ≤ w.sz ∧ w.sz < w.md ∧ 0 ≤ w.bs ∧ w.bs < w.md ∧ (w.l.length : Int) ≤ w.sz := of_decide_eq_true h
theorem rt_of {w : W} (h : 2 ≤ w.md ∧ w.md ≤ 64 ∧ 1 ≤ w.sz ∧ w.sz < w.md ∧ 0 ≤ w.bs ∧ w.bs < w.md ∧ (w.l.length : Int) ≤ w.sz) : rt w = true := decide_eq_true h
/-- One number more, within one round. -/
theorem wrapNum {b m : Int} {i : Nat} (hb : 0 ≤ b) (hb2 : b < m) (hi : (i : Int) < m) : (b + i) % m = if b + i < m then b + i else b + i - m := by
  split
  · rw [Int.emod_eq_of_lt (by omega) (by omega)]
  · rw [show b + (i : Int) = (b + i - m) + m by omega, Int.add_emod_right, Int.emod_eq_of_lt (by omega) (by omega)]; omega
theorem num_lt {w : W} (h : rt w = true) (i : Nat) : 0 ≤ num w i ∧ num w i < w.md := by
  obtain ⟨h1, _⟩ := rt_parts h
  exact ⟨Int.emod_nonneg _ (by omega), Int.emod_lt_of_pos _ (by omega)⟩
theorem num_inj {w : W} (h : rt w = true) {i j : Nat} (hi : i < w.l.length) (hj : j < w.l.length) (e : num w i = num w j) : i = j := by
  obtain ⟨h1, h2, h3, h4, h5, h6, h7⟩ := rt_parts h
  unfold num at e
  rw [wrapNum h5 h6 (by omega), wrapNum h5 h6 (by omega)] at e
  split at e <;> split at e <;> omega
/-- The number of a place stands at that place. -/
theorem place_num {w : W} (h : rt w = true) {i : Nat} (hi : i < w.l.length) : place w (num w i) = some i := by
  obtain ⟨h1, h2, h3, h4, h5, h6, h7⟩ := rt_parts h
  have hn := num_lt h i
  have e : ahead w.bs (num w i) w.md = (i : Int) := by
    unfold ahead
    rw [if_pos ⟨h1, h2, h5, h6, hn.1, hn.2⟩]
    unfold num
    rw [wrapNum h5 h6 (by omega)]
    split <;> split <;> omega
  unfold place
  rw [e, if_pos ⟨h, by omega, by omega⟩, Int.toNat_natCast]
theorem place_some {w : W} {n : Int} {k : Nat} (h : place w n = some k) : rt w = true ∧ k < w.l.length ∧ n = num w k := by
  unfold place at h
  split at h
  · rename_i hc
    obtain ⟨hr, h0, hl⟩ := hc
    have hk : (ahead w.bs n w.md).toNat = k := Option.some.inj h
    obtain ⟨h1, h2, h3, h4, h5, h6, h7⟩ := rt_parts hr
    refine ⟨hr, by omega, ?_⟩
    by_cases hv : 2 ≤ w.md ∧ w.md ≤ 64 ∧ 0 ≤ w.bs ∧ w.bs < w.md ∧ 0 ≤ n ∧ n < w.md
    · have e : ahead w.bs n w.md = if w.bs ≤ n then n - w.bs else n - w.bs + w.md := if_pos hv
      unfold num
      rw [wrapNum h5 h6 (by omega)]
      split at e <;> split <;> omega
    · rw [ahead_no hv] at h0; omega
  · cases h
theorem place_none {w : W} (h : rt w = true) {n : Int} (hn : place w n = none) : ∀ i, i < w.l.length → ¬ num w i = n := by
  intro i hi e
  rw [← e, place_num h hi] at hn
  cases hn
theorem put_ok {w : W} (h : rt w = true) (hl : ¬ (w.l.length : Int) = w.sz) (s : ByteArray) : put w s = ({ w with l := w.l ++ [s] }, num w w.l.length, 0) := by
  unfold put; rw [if_pos h, if_neg hl]
theorem put_full {w : W} (h : rt w = true) (hl : (w.l.length : Int) = w.sz) (s : ByteArray) : put w s = (w, 0, 8) := by
  unfold put; rw [if_pos h, if_pos hl]
theorem put_arg {w : W} (h : rt w = false) (s : ByteArray) : put w s = (w, 0, 1) := by
  unfold put; rw [if_neg (by rw [h]; simp)]
theorem put_rt {w : W} (h : rt w = true) (hl : ¬ (w.l.length : Int) = w.sz) (s : ByteArray) : rt { w with l := w.l ++ [s] } = true := by
  obtain ⟨h1, h2, h3, h4, h5, h6, h7⟩ := rt_parts h
  apply rt_of
  simp only [List.length_append, List.length_singleton]
  omega
theorem ack_rt {w : W} {n : Int} {k : Nat} (h : place w n = some k) : rt { w with bs := (n + 1) % w.md, l := w.l.drop (k + 1) } = true := by
  obtain ⟨hr, hk, rfl⟩ := place_some h
  obtain ⟨h1, h2, h3, h4, h5, h6, h7⟩ := rt_parts hr
  apply rt_of
  have := Int.emod_nonneg (num w k + 1) (b := w.md) (by omega)
  have := Int.emod_lt_of_pos (num w k + 1) (b := w.md) (by omega)
  simp only [List.length_drop]
  omega
/-- Behind an Ack the numbers of what is left are as they were. -/
theorem ack_num {w : W} {n : Int} {k : Nat} (h : place w n = some k) (i : Nat) : num { w with bs := (n + 1) % w.md, l := w.l.drop (k + 1) } i = num w (k + 1 + i) := by
  obtain ⟨hr, hk, rfl⟩ := place_some h
  unfold num
  dsimp only
  rw [Int.emod_add_emod, show (w.bs + (k : Int)) % w.md + 1 + (i : Int) = (w.bs + (k : Int)) % w.md + (1 + (i : Int)) by omega, Int.emod_add_emod]
  congr 1
  omega
theorem put_num (w : W) (s : ByteArray) (i : Nat) : num { w with l := w.l ++ [s] } i = num w i := rfl
/-- From a to c is as far as by b, but for rounds. -/
theorem ahead_by {a b c m : Int} (hm : 2 ≤ m ∧ m ≤ 64) (ha : 0 ≤ a ∧ a < m) (hb : 0 ≤ b ∧ b < m) (hc : 0 ≤ c ∧ c < m) : (ahead a b m + ahead b c m) % m = ahead a c m := by
  rw [ahead_eq ⟨hm.1, hm.2, ha.1, ha.2, hb.1, hb.2⟩, ahead_eq ⟨hm.1, hm.2, hb.1, hb.2, hc.1, hc.2⟩, ahead_eq ⟨hm.1, hm.2, ha.1, ha.2, hc.1, hc.2⟩, ← Int.add_emod, show b - a + m + (c - b + m) = (c - a + m) + m by omega, Int.add_emod_right]
/-- There and back is one round, or nothing. -/
theorem ahead_back {a b m : Int} (hm : 2 ≤ m ∧ m ≤ 64) (ha : 0 ≤ a ∧ a < m) (hb : 0 ≤ b ∧ b < m) : (ahead a b m + ahead b a m = m ∨ (ahead a b m + ahead b a m = 0 ∧ a = b)) ∧ (a + ahead a b m) % m = b := by
  have e1 : ahead a b m = if a ≤ b then b - a else b - a + m := if_pos ⟨hm.1, hm.2, ha.1, ha.2, hb.1, hb.2⟩
  have e2 : ahead b a m = if b ≤ a then a - b else a - b + m := if_pos ⟨hm.1, hm.2, hb.1, hb.2, ha.1, ha.2⟩
  refine ⟨?_, ?_⟩
  · rw [e1, e2]
    split <;> split <;> omega
  · rw [e1]
    split
    · rw [show a + (b - a) = b by omega]; exact Int.emod_eq_of_lt hb.1 hb.2
    · rw [show a + (b - a + m) = b + m by omega, Int.add_emod_right]; exact Int.emod_eq_of_lt hb.1 hb.2
/-- What stands while calls are made: the window is right, of that mod and size, and its next number is that of the puts so far. -/
structure Row (m z : Int) (puts : Nat) (w : W) : Prop where
  ok : rt w = true
  md : w.md = m
  sz : w.sz = z
  nx : num w w.l.length = (puts : Int) % m
theorem row_begin {m s : Int} (h : fit m s 0) : Row m s 0 (begin_ m s 0).1 ∧ (begin_ m s 0).2 = 0 := by
  have e : begin_ m s 0 = (⟨m, s, 0, []⟩, 0) := if_pos h
  rw [e]
  obtain ⟨h1, h2, h3, h4, h5, h6⟩ := h
  exact ⟨⟨rt_of ⟨h1, h2, h3, h4, h5, h6, by show ((0 : Nat) : Int) ≤ s; omega⟩, rfl, rfl, by simp [num]⟩, rfl⟩
theorem row_put {m s : Int} {p : Nat} {w : W} (h : Row m s p w) (hl : ¬ (w.l.length : Int) = w.sz) (x : ByteArray) : Row m s (p + 1) { w with l := w.l ++ [x] } := by
  refine ⟨put_rt h.ok hl x, h.md, h.sz, ?_⟩
  have e := h.nx
  unfold num at *
  dsimp only
  rw [List.length_append, List.length_singleton]
  rw [show w.bs + ((w.l.length + 1 : Nat) : Int) = (w.bs + (w.l.length : Int)) + 1 by omega, Int.add_emod, e, h.md, show ((p + 1 : Nat) : Int) = (p : Int) + 1 by omega, ← Int.add_emod]
theorem row_ack {m s : Int} {p : Nat} {w : W} (h : Row m s p w) {n : Int} {k : Nat} (hk : place w n = some k) : Row m s p { w with bs := (n + 1) % w.md, l := w.l.drop (k + 1) } := by
  refine ⟨ack_rt hk, h.md, h.sz, ?_⟩
  have hl := (place_some hk).2.1
  rw [ack_num hk, ← h.nx]
  congr 1
  simp only [List.length_drop]
  omega
theorem row_full {m s : Int} {p : Nat} {w : W} (h : Row m s p w) (x : ByteArray) : ((put w x).2.2 = 0 ∧ (put w x).2.1 = (p : Int) % m ∧ Row m s (p + 1) (put w x).1) ∨ ((put w x).2.2 = 8 ∧ (w.l.length : Int) = s ∧ (put w x).1 = w) := by
  by_cases hl : (w.l.length : Int) = w.sz
  · right
    rw [put_full h.ok hl]
    exact ⟨rfl, by rw [hl, h.sz], rfl⟩
  · left
    rw [put_ok h.ok hl]
    exact ⟨rfl, h.nx, row_put h hl x⟩
theorem nums_ok {w : W} (h : rt w = true) : nums w = (List.range w.l.length).map (num w) := by unfold nums; rw [if_pos h]
theorem nums_len {w : W} (h : rt w = true) : (nums w).length = w.l.length := by rw [nums_ok h]; simp
theorem nums_nodup {w : W} (h : rt w = true) : (nums w).Nodup := by
  rw [nums_ok h, List.nodup_iff_pairwise_ne, List.pairwise_map]
  refine List.Pairwise.imp_of_mem ?_ (List.nodup_iff_pairwise_ne.1 List.nodup_range)
  intro a b ha hb hne e
  exact hne (num_inj h (List.mem_range.1 ha) (List.mem_range.1 hb) e)
theorem nums_rng {w : W} (h : rt w = true) : ∀ n ∈ nums w, 0 ≤ n ∧ n < w.md := by
  intro n hn
  rw [nums_ok h, List.mem_map] at hn
  obtain ⟨i, _, rfl⟩ := hn
  exact num_lt h i
/-- What waits, each with its number. -/
def waits (w : W) : List (Int × ByteArray) := (List.range w.l.length).map fun i => (num w i, w.l.getD i ByteArray.empty)
theorem waits_len (w : W) : (waits w).length = w.l.length := by simp [waits]
theorem waits_get (w : W) {i : Nat} (hi : i < w.l.length) : (waits w)[i]'(by rw [waits_len]; exact hi) = (num w i, w.l[i]) := by
  simp [waits, List.getD_eq_getElem?_getD, hi]
theorem waits_put (w : W) (s : ByteArray) : waits { w with l := w.l ++ [s] } = waits w ++ [(num w w.l.length, s)] := by
  unfold waits
  dsimp only
  rw [List.length_append, List.length_singleton, List.range_succ, List.map_append]
  congr 1
  · apply List.map_congr_left
    intro i hi
    rw [List.mem_range] at hi
    simp [num, List.getD_eq_getElem?_getD, List.getElem?_append_left hi]
  · simp [num, List.getD_eq_getElem?_getD]
theorem waits_ack {w : W} {n : Int} {k : Nat} (h : place w n = some k) : waits { w with bs := (n + 1) % w.md, l := w.l.drop (k + 1) } = (waits w).drop (k + 1) := by
  have hl := (place_some h).2.1
  apply List.ext_getElem
  · simp [waits_len]
  · intro i h1 h2
    have hi : i < (w.l.drop (k + 1)).length := by rw [waits_len] at h1; exact h1
    have hi2 : k + 1 + i < w.l.length := by rw [List.length_drop] at hi; omega
    have e1 : ((waits w).drop (k + 1))[i] = (waits w)[k + 1 + i]'(by rw [waits_len]; exact hi2) := List.getElem_drop
    have e2 : (w.l.drop (k + 1))[i] = w.l[k + 1 + i] := List.getElem_drop
    rw [waits_get { w with bs := (n + 1) % w.md, l := w.l.drop (k + 1) } hi, e1, waits_get w hi2, ack_num h]
    show (_, (w.l.drop (k + 1))[i]) = _
    rw [e2]
theorem waits_find {w : W} (h : rt w = true) {i : Nat} (hi : i < w.l.length) : find w (num w i) = some w.l[i] := by
  unfold find
  rw [place_num h hi]
  simp [hi]
/-- The last place of a number among what waits, told from 1 on; 0: none. -/
def lastAt (n : Int) : List (Int × ByteArray) → Nat → Nat → Nat
  | [], _, k => k
  | y :: r, i, k => lastAt n r (i + 1) (if y.1 = n then i + 1 else k)
theorem lastAt_none {n : Int} : ∀ (l : List (Int × ByteArray)) (i k : Nat), (∀ y ∈ l, ¬ y.1 = n) → lastAt n l i k = k
  | [], _, _, _ => rfl
  | y :: r, i, k, h => by
    unfold lastAt
    rw [if_neg (h y (by simp))]
    exact lastAt_none r (i + 1) k (fun z hz => h z (by simp [hz]))
theorem lastAt_app {n : Int} : ∀ (l m : List (Int × ByteArray)) (i k : Nat), lastAt n (l ++ m) i k = lastAt n m (i + l.length) (lastAt n l i k)
  | [], m, i, k => by simp [lastAt]
  | y :: r, m, i, k => by
    rw [List.cons_append, lastAt, lastAt, lastAt_app r m (i + 1) _, List.length_cons]
    congr 1
    omega
theorem lastAt_ack {w : W} (h : rt w = true) (n : Int) : lastAt n (waits w) 0 0 = (ack w n).2 := by
  cases hp : place w n with
  | none =>
    rw [show (ack w n).2 = 0 by unfold ack; rw [hp]]
    apply lastAt_none
    intro y hy
    unfold waits at hy
    rw [List.mem_map] at hy
    obtain ⟨i, hi, rfl⟩ := hy
    exact place_none h hp i (List.mem_range.1 hi)
  | some k =>
    obtain ⟨_, hk, hn⟩ := place_some hp
    rw [show (ack w n).2 = k + 1 by unfold ack; rw [hp]]
    have hkw : k < (waits w).length := by rw [waits_len]; exact hk
    have e : waits w = (waits w).take k ++ ((waits w)[k] :: (waits w).drop (k + 1)) := by
      rw [← List.drop_eq_getElem_cons hkw, List.take_append_drop]
    rw [e, lastAt_app, lastAt, waits_get w hk, if_pos hn.symm, List.length_take]
    rw [lastAt_none]
    · omega
    · intro y hy
      obtain ⟨j, hj, rfl⟩ := List.mem_iff_getElem.1 hy
      rw [List.length_drop, waits_len] at hj
      rw [List.getElem_drop, waits_get w (by omega), hn]
      intro e2
      have := num_inj h (by omega) hk e2
      omega
end Wn
end Go.Proofs.Ytnglfefgcdbgmaa
