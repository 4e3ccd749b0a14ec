/-
  Mathematics of layer 14: windows of numbers that begin anew. Mathematics of layer 15: one end of the protocols g and G, as the document says it; a drive that is right stays right. Small facts on what a call hands back, shared by the layers. Walks of layer 14: numbers; Ahead and Begin, the program's and the document's.
-/
import Derived.Test.YtlclfkogbfigbaaProg
import Derived.Test.YtlclfkogbfigbaaCuAB
import Derived.WalkKit
import Derived.Test.YtlclfkogbfigbaaCuAA
namespace Go.Proofs.Ytlclfkogbfigbaa
namespace Wn
/-- How many steps lead from a to b, modulo m; -1 where these may not be. -/
def ahead (a b m : Int) : Int := if 2 ≤ m ∧ m ≤ 64 ∧ 0 ≤ a ∧ a < m ∧ 0 ≤ b ∧ b < m then (if a ≤ b then b - a else b - a + m) else -1
/-- A window. -/
structure W where
  md : Int
  sz : Int
  bs : Int
  l : List ByteArray
def zero : W := ⟨0, 0, 0, []⟩
def fit (m s b : Int) : Prop := 2 ≤ m ∧ m ≤ 64 ∧ 1 ≤ s ∧ s < m ∧ 0 ≤ b ∧ b < m
theorem fit_dec (m s b : Int) : fit m s b ∨ ¬ fit m s b := by unfold fit; omega
def begin_ (m s b : Int) : W × Nat := if 2 ≤ m ∧ m ≤ 64 ∧ 1 ≤ s ∧ s < m ∧ 0 ≤ b ∧ b < m then (⟨m, s, b, []⟩, 0) else (zero, 1)
def rt (w : W) : Bool := decide (2 ≤ w.md ∧ w.md ≤ 64 ∧ 1 ≤ w.sz ∧ w.sz < w.md ∧ 0 ≤ w.bs ∧ w.bs < w.md ∧ (w.l.length : Int) ≤ w.sz)
def num (w : W) (i : Nat) : Int := (w.bs + i) % w.md
/-- Put: the window, the number, the error. -/
def put (w : W) (s : ByteArray) : W × Int × Nat := if rt w = true then (if (w.l.length : Int) = w.sz then (w, 0, 8) else ({ w with l := w.l ++ [s] }, num w w.l.length, 0)) else (w, 0, 1)
/-- The place of a number among what waits. -/
def place (w : W) (n : Int) : Option Nat := if rt w = true ∧ 0 ≤ ahead w.bs n w.md ∧ ahead w.bs n w.md < w.l.length then some (ahead w.bs n w.md).toNat else none
/-- Ack: the window, how many went. -/
def ack (w : W) (n : Int) : W × Nat := match place w n with
  | some k => ({ w with bs := (n + 1) % w.md, l := w.l.drop (k + 1) }, k + 1)
  | none => (w, 0)
def find (w : W) (n : Int) : Option ByteArray := (place w n).bind fun k => w.l[k]?
def nums (w : W) : List Int := if rt w = true then (List.range w.l.length).map (num w) else []
theorem ahead_no {a b m : Int} (h : ¬ (2 ≤ m ∧ m ≤ 64 ∧ 0 ≤ a ∧ a < m ∧ 0 ≤ b ∧ b < m)) : ahead a b m = -1 := if_neg h
theorem ahead_eq {a b m : Int} (h : 2 ≤ m ∧ m ≤ 64 ∧ 0 ≤ a ∧ a < m ∧ 0 ≤ b ∧ b < m) : ahead a b m = (b - a + m) % m := by
  unfold ahead
  rw [if_pos h]
  split
  · rw [show b - a + m = (b - a) + m by omega, Int.add_emod_right, Int.emod_eq_of_lt (by omega) (by omega)]
  · rw [Int.emod_eq_of_lt (by omega) (by omega)]
theorem ahead_lt {a b m : Int} (h : 2 ≤ m ∧ m ≤ 64 ∧ 0 ≤ a ∧ a < m ∧ 0 ≤ b ∧ b < m) : 0 ≤ ahead a b m ∧ ahead a b m < m := by
  unfold ahead
  rw [if_pos h]
  split <;> omega
theorem rt_parts {w : W} (h : rt w = true) : 2 ≤ w.md ∧ w.md ≤ 64 ∧ 1 ≤ w.sz ∧ w.sz < w.md ∧ 0 ≤ w.bs ∧ w.bs < w.md ∧ (w.l.length : Int) ≤ w.sz := of_decide_eq_true h
theorem rt_of {w : W} (h : 2 ≤ w.md ∧ w.md ≤ 64 ∧ 1 ≤ w.sz ∧ w.sz < w.md ∧ 0 ≤ w.bs ∧ w.bs < w.md ∧ (w.l.length : Int) ≤ w.sz) : rt w = true := decide_eq_true h
/-- One number more, within one round. -/
theorem wrapNum {b m : Int} {i : Nat} (hb : 0 ≤ b) (hb2 : b < m) (hi : (i : Int) < m) : (b + i) % m = if b + i < m then b + i else b + i - m := by
  split
  · rw [Int.emod_eq_of_lt (by omega) (by omega)]
  · rw [show b + (i : Int) = (b + i - m) + m by omega, Int.add_emod_right, Int.emod_eq_of_lt (by omega) (by omega)]; omega
theorem num_lt {w : W} (h : rt w = true) (i : Nat) : 0 ≤ num w i ∧ num w i < w.md := by
  obtain ⟨h1, _⟩ := rt_parts h
  exact ⟨Int.emod_nonneg _ (by omega), Int.emod_lt_of_pos _ (by omega)⟩
theorem num_inj {w : W} (h : rt w = true) {i j : Nat} (hi : i < w.l.length) (hj : j < w.l.length) (e : num w i = num w j) : i = j := by
  obtain ⟨h1, h2, h3, h4, h5, h6, h7⟩ := rt_parts h
  unfold num at e
  rw [wrapNum h5 h6 (by omega), wrapNum h5 h6 (by omega)] at e
  split at e <;> split at e <;> omega
/-- The number of a place stands at that place. -/
theorem place_num {w : W} (h : rt w = true) {i : Nat} (hi : i < w.l.length) : place w (num w i) = some i := by
  obtain ⟨h1, h2, h3, h4, h5, h6, h7⟩ := rt_parts h
  have hn := num_lt h i
  have e : ahead w.bs (num w i) w.md = (i : Int) := by
    unfold ahead
    rw [if_pos ⟨h1, h2, h5, h6, hn.1, hn.2⟩]
    unfold num
    rw [wrapNum h5 h6 (by omega)]
    split <;> split <;> omega
  unfold place
  rw [e, if_pos ⟨h, by omega, by omega⟩, Int.toNat_natCast]
theorem place_some {w : W} {n : Int} {k : Nat} (h : place w n = some k) : rt w = true ∧ k < w.l.length ∧ n = num w k := by
  unfold place at h
  split at h
  · rename_i hc
    obtain ⟨hr, h0, hl⟩ := hc
    have hk : (ahead w.bs n w.md).toNat = k := Option.some.inj h
    obtain ⟨h1, h2, h3, h4, h5, h6, h7⟩ := rt_parts hr
    refine ⟨hr, by omega, ?_⟩
    by_cases hv : 2 ≤ w.md ∧ w.md ≤ 64 ∧ 0 ≤ w.bs ∧ w.bs < w.md ∧ 0 ≤ n ∧ n < w.md
    · have e : ahead w.bs n w.md = if w.bs ≤ n then n - w.bs else n - w.bs + w.md := if_pos hv
      unfold num
      rw [wrapNum h5 h6 (by omega)]
      split at e <;> split <;> omega
    · rw [ahead_no hv] at h0; omega
  · cases h
theorem place_none {w : W} (h : rt w = true) {n : Int} (hn : place w n = none) : ∀ i, i < w.l.length → ¬ num w i = n := by
  intro i hi e
  rw [← e, place_num h hi] at hn
  cases hn
theorem put_ok {w : W} (h : rt w = true) (hl : ¬ (w.l.length : Int) = w.sz) (s : ByteArray) : put w s = ({ w with l := w.l ++ [s] }, num w w.l.length, 0) := by
  unfold put; rw [if_pos h, if_neg hl]
theorem put_full {w : W} (h : rt w = true) (hl : (w.l.length : Int) = w.sz) (s : ByteArray) : put w s = (w, 0, 8) := by
  unfold put; rw [if_pos h, if_pos hl]
theorem put_arg {w : W} (h : rt w = false) (s : ByteArray) : put w s = (w, 0, 1) := by
  unfold put; rw [if_neg (by rw [h]; simp)]
theorem put_rt {w : W} (h : rt w = true) (hl : ¬ (w.l.length : Int) = w.sz) (s : ByteArray) : rt { w with l := w.l ++ [s] } = true := by
  obtain ⟨h1, h2, h3, h4, h5, h6, h7⟩ := rt_parts h
  apply rt_of
  simp only [List.length_append, List.length_singleton]
  omega
theorem ack_rt {w : W} {n : Int} {k : Nat} (h : place w n = some k) : rt { w with bs := (n + 1) % w.md, l := w.l.drop (k + 1) } = true := by
  obtain ⟨hr, hk, rfl⟩ := place_some h
  obtain ⟨h1, h2, h3, h4, h5, h6, h7⟩ := rt_parts hr
  apply rt_of
  have := Int.emod_nonneg (num w k + 1) (b := w.md) (by omega)
  have := Int.emod_lt_of_pos (num w k + 1) (b := w.md) (by omega)
  simp only [List.length_drop]
  omega
/-- Behind an Ack the numbers of what is left are as they were. -/
theorem ack_num {w : W} {n : Int} {k : Nat} (h : place w n = some k) (i : Nat) : num { w with bs := (n + 1) % w.md, l := w.l.drop (k + 1) } i = num w (k + 1 + i) := by
  obtain ⟨hr, hk, rfl⟩ := place_some h
  unfold num
  dsimp only
  rw [Int.emod_add_emod, show (w.bs + (k : Int)) % w.md + 1 + (i : Int) = (w.bs + (k : Int)) % w.md + (1 + (i : Int)) by omega, Int.emod_add_emod]
  congr 1
  omega
theorem put_num (w : W) (s : ByteArray) (i : Nat) : num { w with l := w.l ++ [s] } i = num w i := rfl
/-- From a to c is as far as by b, but for rounds. -/
theorem ahead_by {a b c m : Int} (hm : 2 ≤ m ∧ m ≤ 64) (ha : 0 ≤ a ∧ a < m) (hb : 0 ≤ b ∧ b < m) (hc : 0 ≤ c ∧ c < m) : (ahead a b m + ahead b c m) % m = ahead a c m := by
  rw [ahead_eq ⟨hm.1, hm.2, ha.1, ha.2, hb.1, hb.2⟩, ahead_eq ⟨hm.1, hm.2, hb.1, hb.2, hc.1, hc.2⟩, ahead_eq ⟨hm.1, hm.2, ha.1, ha.2, hc.1, hc.2⟩, ← Int.add_emod, show b - a + m + (c - b + m) = (c - a + m) + m by omega, Int.add_emod_right]
/-- There and back is one round, or nothing. -/
theorem ahead_back {a b m : Int} (hm : 2 ≤ m ∧ m ≤ 64) (ha : 0 ≤ a ∧ a < m) (hb : 0 ≤ b ∧ b < m) : (ahead a b m + ahead b a m = m ∨ (ahead a b m + ahead b a m = 0 ∧ a = b)) ∧ (a + ahead a b m) % m = b := by
  have e1 : ahead a b m = if a ≤ b then b - a else b - a + m := if_pos ⟨hm.1, hm.2, ha.1, ha.2, hb.1, hb.2⟩
  have e2 : ahead b a m = if b ≤ a then a - b else a - b + m := if_pos ⟨hm.1, hm.2, hb.1, hb.2, ha.1, ha.2⟩
  refine ⟨?_, ?_⟩
  · rw [e1, e2]
    split <;> split <;> omega
  · rw [e1]
    split
    · rw [show a + (b - a) = b by omega]; exact Int.emod_eq_of_lt hb.1 hb.2
    · rw [show a + (b - a + m) = b + m by omega, Int.add_emod_right]; exact Int.emod_eq_of_lt hb.1 hb.2
/-- What stands while calls are made: the window is right, of that mod and size, and its next number is that of the puts so far. -/
structure Row (m z : Int) (puts : Nat) (w : W) : Prop where
  ok : rt w = true
  md : w.md = m
  sz : w.sz = z
  nx : num w w.l.length = (puts : Int) % m
theorem row_begin {m s : Int} (h : fit m s 0) : Row m s 0 (begin_ m s 0).1 ∧ (begin_ m s 0).2 = 0 := by
  have e : begin_ m s 0 = (⟨m, s, 0, []⟩, 0) := if_pos h
  rw [e]
  obtain ⟨h1, h2, h3, h4, h5, h6⟩ := h
  exact ⟨⟨rt_of ⟨h1, h2, h3, h4, h5, h6, by show ((0 : Nat) : Int) ≤ s; omega⟩, rfl, rfl, by simp [num]⟩, rfl⟩
theorem row_put {m s : Int} {p : Nat} {w : W} (h : Row m s p w) (hl : ¬ (w.l.length : Int) = w.sz) (x : ByteArray) : Row m s (p + 1) { w with l := w.l ++ [x] } := by
  refine ⟨put_rt h.ok hl x, h.md, h.sz, ?_⟩
  have e := h.nx
  unfold num at *
  dsimp only
  rw [List.length_append, List.length_singleton]
  rw [show w.bs + ((w.l.length + 1 : Nat) : Int) = (w.bs + (w.l.length : Int)) + 1 by omega, Int.add_emod, e, h.md, show ((p + 1 : Nat) : Int) = (p : Int) + 1 by omega, ← Int.add_emod]
theorem row_ack {m s : Int} {p : Nat} {w : W} (h : Row m s p w) {n : Int} {k : Nat} (hk : place w n = some k) : Row m s p { w with bs := (n + 1) % w.md, l := w.l.drop (k + 1) } := by
  refine ⟨ack_rt hk, h.md, h.sz, ?_⟩
  have hl := (place_some hk).2.1
  rw [ack_num hk, ← h.nx]
  congr 1
  simp only [List.length_drop]
  omega
theorem row_full {m s : Int} {p : Nat} {w : W} (h : Row m s p w) (x : ByteArray) : ((put w x).2.2 = 0 ∧ (put w x).2.1 = (p : Int) % m ∧ Row m s (p + 1) (put w x).1) ∨ ((put w x).2.2 = 8 ∧ (w.l.length : Int) = s ∧ (put w x).1 = w) := by
  by_cases hl : (w.l.length : Int) = w.sz
  · right
    rw [put_full h.ok hl]
    exact ⟨rfl, by rw [hl, h.sz], rfl⟩
  · left
    rw [put_ok h.ok hl]
    exact ⟨rfl, h.nx, row_put h hl x⟩
theorem nums_ok {w : W} (h : rt w = true) : nums w = (List.range w.l.length).map (num w) := by unfold nums; rw [if_pos h]
theorem nums_len {w : W} (h : rt w = true) : (nums w).length = w.l.length := by rw [nums_ok h]; simp
theorem nums_nodup {w : W} (h : rt w = true) : (nums w).Nodup := by
  rw [nums_ok h, List.nodup_iff_pairwise_ne, List.pairwise_map]
  refine List.Pairwise.imp_of_mem ?_ (List.nodup_iff_pairwise_ne.1 List.nodup_range)
  intro a b ha hb hne e
  exact hne (num_inj h (List.mem_range.1 ha) (List.mem_range.1 hb) e)
theorem nums_rng {w : W} (h : rt w = true) : ∀ n ∈ nums w, 0 ≤ n ∧ n < w.md := by
  intro n hn
  rw [nums_ok h, List.mem_map] at hn
  obtain ⟨i, _, rfl⟩ := hn
  exact num_lt h i
/-- What waits, each with its number. -/
def waits (w : W) : List (Int × ByteArray) := (List.range w.l.length).map fun i => (num w i, w.l.getD i ByteArray.empty)
theorem waits_len (w : W) : (waits w).length = w.l.length := by simp [waits]
theorem waits_get (w : W) {i : Nat} (hi : i < w.l.length) : (waits w)[i]'(by rw [waits_len]; exact hi) = (num w i, w.l[i]) := by
  simp [waits, List.getD_eq_getElem?_getD, hi]
theorem waits_put (w : W) (s : ByteArray) : waits { w with l := w.l ++ [s] } = waits w ++ [(num w w.l.length, s)] := by
  unfold waits
  dsimp only
  rw [List.length_append, List.length_singleton, List.range_succ, List.map_append]
  congr 1
  · apply List.map_congr_left
    intro i hi
    rw [List.mem_range] at hi
    simp [num, List.getD_eq_getElem?_getD, List.getElem?_append_left hi]
  · simp [num, List.getD_eq_getElem?_getD]
theorem waits_ack {w : W} {n : Int} {k : Nat} (h : place w n = some k) : waits { w with bs := (n + 1) % w.md, l := w.l.drop (k + 1) } = (waits w).drop (k + 1) := by
  have hl := (place_some h).2.1
  apply List.ext_getElem
  · simp [waits_len]
  · intro i h1 h2
    have hi : i < (w.l.drop (k + 1)).length := by rw [waits_len] at h1; exact h1
    have hi2 : k + 1 + i < w.l.length := by rw [List.length_drop] at hi; omega
    have e1 : ((waits w).drop (k + 1))[i] = (waits w)[k + 1 + i]'(by rw [waits_len]; exact hi2) := List.getElem_drop
    have e2 : (w.l.drop (k + 1))[i] = w.l[k + 1 + i] := List.getElem_drop
    rw [waits_get { w with bs := (n + 1) % w.md, l := w.l.drop (k + 1) } hi, e1, waits_get w hi2, ack_num h]
    show (_, (w.l.drop (k + 1))[i]) = _
    rw [e2]
theorem waits_find {w : W} (h : rt w = true) {i : Nat} (hi : i < w.l.length) : find w (num w i) = some w.l[i] := by
  unfold find
  rw [place_num h hi]
  simp [hi]
/-- The last place of a number among what waits, told from 1 on; 0: none. -/
def lastAt (n : Int) : List (Int × ByteArray) → Nat → Nat → Nat
  | [], _, k => k
  | y :: r, i, k => lastAt n r (i + 1) (if y.1 = n then i + 1 else k)
theorem lastAt_none {n : Int} : ∀ (l : List (Int × ByteArray)) (i k : Nat), (∀ y ∈ l, ¬ y.1 = n) → lastAt n l i k = k
  | [], _, _, _ => rfl
  | y :: r, i, k, h => by
    unfold lastAt
    rw [if_neg (h y (by simp))]
    exact lastAt_none r (i + 1) k (fun z hz => h z (by simp [hz]))
theorem lastAt_app {n : Int} : ∀ (l m : List (Int × ByteArray)) (i k : Nat), lastAt n (l ++ m) i k = lastAt n m (i + l.length) (lastAt n l i k)
  | [], m, i, k => by simp [lastAt]
  | y :: r, m, i, k => by
    rw [List.cons_append, lastAt, lastAt, lastAt_app r m (i + 1) _, List.length_cons]
    congr 1
    omega
theorem lastAt_ack {w : W} (h : rt w = true) (n : Int) : lastAt n (waits w) 0 0 = (ack w n).2 := by
  cases hp : place w n with
  | none =>
    rw [show (ack w n).2 = 0 by unfold ack; rw [hp]]
    apply lastAt_none
    intro y hy
    unfold waits at hy
    rw [List.mem_map] at hy
    obtain ⟨i, hi, rfl⟩ := hy
    exact place_none h hp i (List.mem_range.1 hi)
  | some k =>
    obtain ⟨_, hk, hn⟩ := place_some hp
    rw [show (ack w n).2 = k + 1 by unfold ack; rw [hp]]
    have hkw : k < (waits w).length := by rw [waits_len]; exact hk
    have e : waits w = (waits w).take k ++ ((waits w)[k] :: (waits w).drop (k + 1)) := by
      rw [← List.drop_eq_getElem_cons hkw, List.take_append_drop]
    rw [e, lastAt_app, lastAt, waits_get w hk, if_pos hn.symm, List.length_take]
    rw [lastAt_none]
    · omega
    · intro y hy
      obtain ⟨j, hj, rfl⟩ := List.mem_iff_getElem.1 hy
      rw [List.length_drop, waits_len] at hj
      rw [List.getElem_drop, waits_get w (by omega), hn]
      intro e2
      have := num_inj h (by omega) hk e2
      omega
end Wn
end Go.Proofs.Ytlclfkogbfigbaa

namespace Go.Proofs.Ytlclfkogbfigbaa
namespace Gp
/-- A piece that waits. -/
structure Pc where
  ch : Int
  data : ByteArray
/-- A packet of the protocol i, which a drive of g never keeps. -/
structure Fi where
  kd : Int
  nm : Int
  ak : Int
  ch : Int
  ca : Bool
  data : ByteArray
/-- A drive. Phases: 1 Opening, 2 Running, 3 Closing, 4 Closed, 5 Failed. Letters: 103 g, 71 G. -/
structure Dr where
  letter : Int
  phase : Int
  caller : Bool
  step : Int
  size : Int
  room : Int
  win : Wn.W
  wants : Int
  ahead : List Fi
  buf : List UInt8
  at_ : Int
  queue : List Pc
  wait : Int
  tries : Int
  took : List (Int × Int)
/-- P15.6, but for the phase. -/
def base (d : Dr) : Prop := (d.letter = 103 ∨ d.letter = 71) ∧ Gf.code d.size ≠ 0 ∧ (d.letter = 103 → d.size ≤ 64) ∧ 1 ≤ d.room ∧ d.room ≤ 7 ∧ 0 ≤ d.wants ∧ d.wants ≤ 7 ∧ 0 ≤ d.at_ ∧ d.at_ ≤ 1099511627776 ∧ 0 ≤ d.wait ∧ d.wait ≤ 3 ∧ 0 ≤ d.tries ∧ d.tries ≤ 13 ∧ d.ahead = [] ∧ ∀ p ∈ d.queue, p.data.size ≠ 0
def runs (d : Dr) : Prop := (∀ s ∈ d.win.l, s.size ≠ 0 ∧ (s.size : Int) ≤ d.size) ∧ -1 ≤ d.step ∧ d.step ≤ 7 ∧ d.win.md = 8 ∧ d.win.sz = d.room ∧ 0 ≤ d.win.bs ∧ d.win.bs < 8 ∧ (d.win.l.length : Int) ≤ d.win.sz
/-- P15.6. -/
def right (d : Dr) : Prop := base d ∧ ((d.phase = 1 ∧ 0 ≤ d.step ∧ d.step ≤ 2 ∧ d.win.l = []) ∨ (d.phase = 2 ∧ runs d) ∨ d.phase = 3 ∨ d.phase = 4 ∨ d.phase = 5)
/-- A drive with lists of its own: nothing was taken. -/
def own (d : Dr) : Dr := { d with took := [] }
def ctrl (h l : Int) : List UInt8 := Gf.text ⟨0, h, l, 0, []⟩
/-- The packet by which a step of the opening is made. -/
def opening (d : Dr) (st : Int) : List UInt8 := if st = 0 then ctrl 7 d.room else if st = 1 then ctrl 6 ((Gf.code d.size : Int) - 1) else ctrl 5 d.room
def last (d : Dr) : Int := (d.wants + 7) % 8
def ready (d : Dr) : List UInt8 := ctrl 4 (last d)
def begin_ (letter : Int) (caller : Bool) (size room : Int) : Dr := ⟨letter, 1, caller, 0, size, room, Wn.zero, 1, [], [], 0, [], 0, 0, []⟩
/-- The size of a short packet of G. -/
def hv : Nat → Nat → Nat → Nat
  | 0, z, _ => z
  | k + 1, z, n => if 32 < z ∧ n < z / 2 then hv k (z / 2) n else z
def packet (d : Dr) (n : Int) (s : ByteArray) : List UInt8 :=
  if (s.size : Int) < d.size then Gf.text ⟨3, n, last d, if d.letter = 71 then (hv 7 d.size.toNat s.size : Nat) else d.size, s.data.toList⟩ else Gf.text ⟨2, n, last d, d.size, s.data.toList⟩
/-- All of the window, from place i on. -/
def allFrom (d : Dr) : List ByteArray → Nat → List UInt8
  | [], _ => []
  | s :: r, i => packet d (Wn.num d.win i) s ++ allFrom d r (i + 1)
def all (d : Dr) : List UInt8 := allFrom d d.win.l 0
def cutQ (q : List Pc) (k : Nat) : List Pc := match q with
  | [] => []
  | p :: r => if k = p.data.size then r else ⟨p.ch, p.data.extract k p.data.size⟩ :: r
/-- What waits goes: one text. -/
def fill1 (d : Dr) (p : Pc) : Dr × List UInt8 :=
  let k := min p.data.size d.size.toNat
  let s := p.data.extract 0 k
  let w := Wn.put d.win s
  ({ d with win := w.1, queue := cutQ d.queue k }, packet { d with win := w.1 } w.2.1 s)
def fillN : Nat → Dr → List UInt8 → Dr × List UInt8
  | 0, d, out => (d, out)
  | f + 1, d, out => match d.queue with
    | [] => (d, out)
    | p :: _ => if d.phase = 2 ∧ (d.win.l.length : Int) < d.win.sz then fillN f (fill1 d p).1 (out ++ (fill1 d p).2) else (d, out)
def fill (d : Dr) : Dr × List UInt8 := fillN 8 d []
def open_ (d : Dr) : Dr := { d with phase := 2, step := -1, tries := 0, win := (Wn.begin_ 8 d.room 1).1 }
def or1 (w : Int) : Int := if w % 2 = 1 then w else w + 1
def or2 (w : Int) : Int := if 2 ≤ w then w else w + 2
/-- A packet of the opening. -/
def begins (d : Dr) (q low : Int) : Dr × List UInt8 :=
  if d.phase = 2 then (d, if q = 2 then ready d else [])
  else if d.phase ≠ 1 ∨ d.step < q then (d, [])
  else if q < d.step then (if q ≠ d.step - 1 ∨ d.wait % 2 = 1 then (d, []) else ({ d with wait := or1 d.wait }, opening { d with wait := or1 d.wait } q))
  else if q = 1 then
    let e : Dr := { d with size := min d.size (32 * 2 ^ low.toNat), step := d.step + 1, tries := 0 }
    (e, opening e e.step)
  else if low < 1 then (d, [])
  else
    let e : Dr := { d with room := min d.room low, step := d.step + 1, tries := 0 }
    if e.step = 3 then (open_ e, []) else (e, opening e e.step)
def acked (d : Dr) (n : Int) : Dr := { d with win := (Wn.ack d.win n).1, tries := if 0 < (Wn.ack d.win n).2 then 0 else d.tries }
def closes (d : Dr) : Dr × List UInt8 :=
  if d.phase = 3 then ({ d with phase := 4, step := 0 }, [])
  else if d.phase = 4 then (d, if d.step = 1 then ctrl 1 0 else [])
  else if d.phase = 5 then (d, [])
  else ({ d with phase := 4, step := 1 }, ctrl 1 0)
/-- A packet that is none of the opening's, nor a close. -/
def takes2 (d : Dr) (f : Gf.Fr) : Dr × List UInt8 × List UInt8 :=
  let d := if d.phase = 1 ∧ d.step = 2 then open_ d else d
  if d.phase = 3 then (d, ctrl 1 0, [])
  else if d.phase ≠ 2 then (d, [], [])
  else
    let d := acked d f.lo
    if f.ty = 0 then (if f.hi ≠ 2 ∨ d.wait % 2 = 1 then (d, [], []) else ({ d with wait := or1 d.wait }, all { d with wait := or1 d.wait }, []))
    else
      let k := Wn.ahead d.wants f.hi 8
      if k = 0 then
        let e : Dr := { d with wants := (d.wants + 1) % 8 }
        (e, ready e, f.data)
      else if k < d.room then (d, ctrl 2 (last d), []) else (d, ready d, [])
/-- A packet came. -/
def takes (d : Dr) (f : Gf.Fr) : Dr × List UInt8 × List UInt8 :=
  let d : Dr := { d with wait := or2 d.wait }
  if f.ty = 0 ∧ 5 ≤ f.hi then ((begins d (7 - f.hi) f.lo).1, (begins d (7 - f.hi) f.lo).2, [])
  else if f.ty = 0 ∧ f.hi = 1 then ((closes d).1, (closes d).2, [])
  else takes2 d f
/-- The packets that are found. -/
def feedN : Nat → Dr → List UInt8 → List UInt8 → Dr × List UInt8 × List UInt8
  | 0, d, out, came => (d, out, came)
  | f + 1, d, out, came =>
    let x := Gf.scan 0 d.buf
    if x.ok = true then
      let e : Dr := { d with took := d.took ++ [(d.at_ + x.a, d.at_ + x.b)], buf := d.buf.drop x.b, at_ := d.at_ + x.b }
      let r := takes e x.f
      feedN f r.1 (out ++ r.2.1) (came ++ r.2.2)
    else ({ d with buf := d.buf.drop x.a, at_ := d.at_ + x.a }, out, came)
def feed (d : Dr) (s : List UInt8) : Dr × List UInt8 × List UInt8 :=
  let r := feedN (d.buf.length + s.length + 1) { own d with buf := d.buf ++ s } [] []
  ((fill r.1).1, r.2.1 ++ (fill r.1).2, r.2.2)
def tick (d : Dr) : Dr × List UInt8 :=
  let d := own d
  let d : Dr := if 2 ≤ d.wait then { d with wait := 0 } else { d with at_ := d.at_ + d.buf.length, buf := [], wait := 0 }
  if d.phase = 1 ∨ d.phase = 3 then
    let d : Dr := { d with tries := d.tries + 1 }
    if 12 < d.tries then (if d.phase = 3 then ({ d with phase := 4, step := 0 }, []) else ({ d with phase := 5 }, []))
    else if d.phase = 3 then (d, ctrl 1 0) else (d, opening d d.step)
  else if d.phase = 2 then
    if d.win.l = [] then ({ d with step := -1 }, [])
    else if d.step ≠ d.win.bs then ({ d with step := d.win.bs }, [])
    else
      let d : Dr := { d with tries := d.tries + 1 }
      if 12 < d.tries then ({ d with phase := 5 }, []) else (d, all d)
  else (d, [])
def send (d : Dr) (p : Pc) : Dr × List UInt8 := if p.data.size = 0 ∨ (d.phase ≠ 1 ∧ d.phase ≠ 2) then (own d, []) else fill { own d with queue := d.queue ++ [p] }
def close (d : Dr) : Dr × List UInt8 := if d.phase ≠ 1 ∧ d.phase ≠ 2 then (own d, []) else ({ own d with phase := 3, tries := 0, step := 0 }, ctrl 1 0)
end Gp
end Go.Proofs.Ytlclfkogbfigbaa

namespace Go.Proofs.Ytlclfkogbfigbaa
theorem ret_bool {a b : Bool} (h : a = b) : Ending.returned (.bool a) = .returned (.bool b) := by rw [h]
theorem ret_s {a b : ByteArray} (h : a = b) : Ending.returned (.string a) = .returned (.string b) := by rw [h]
theorem ret_se {a b : ByteArray} {x y : Int} (h : a = b) (h2 : x = y) : Ending.returned (.tuple #[.string a, .int .i64 x]) = .returned (.tuple #[.string b, .int .i64 y]) := by rw [h, h2]
theorem ret_int {a b : Int} (h : a = b) : Ending.returned (.int .i64 a) = .returned (.int .i64 b) := by rw [h]
theorem tl_eq (s : ByteArray) : s.toList = s.data.toList := ByteArray.toList_eq s
end Go.Proofs.Ytlclfkogbfigbaa

namespace Go.Proofs.Ytlclfkogbfigbaa
open Go.RowKit
theorem Wn.wrp {z : Int} (h : -9223372036854775808 ≤ z) (h2 : z ≤ 9223372036854775807) : IntKind.i64.wrap z = z ∧ wrap64 z = z := by
  refine ⟨?_, ?_⟩
  · rw [IntKind.wrap_i64]; omega
  · unfold wrap64; omega
theorem Wn.dT {a b : Int} (h : a < b) : decide (a < b) = true := decide_eq_true h
theorem Wn.dF {a b : Int} (h : ¬ a < b) : decide (a < b) = false := decide_eq_false h
theorem Wn.eT {a b : Int} (h : a ≤ b) : decide (a ≤ b) = true := decide_eq_true h
theorem Wn.eF {a b : Int} (h : ¬ a ≤ b) : decide (a ≤ b) = false := decide_eq_false h
set_option maxHeartbeats 400000 in
theorem onward_any (a s m : Int) (ha : 0 ≤ a) (ha2 : a ≤ 1000) (hs : 0 ≤ s) (hs2 : s ≤ 1000) (hm : 1 ≤ m) (hm2 : m ≤ 1000) (w : World) :
    Calls Try.prog 83 #[.int .i64 a, .int .i64 s, .int .i64 m] w fun e w' => e = .returned (.int .i64 ((a + s) % m)) ∧ w' = w := by
  have hw := Wn.wrp (z := a + s) (by omega) (by omega)
  have ht : (a + s).tmod m = (a + s) % m := Int.tmod_eq_emod_of_nonneg (by omega)
  have hr0 := Int.emod_nonneg (a + s) (b := m) (by omega)
  have hr1 := Int.emod_lt_of_pos (a + s) (b := m) (by omega)
  generalize (a + s) % m = r at *
  have hw2 := Wn.wrp (z := r) (by omega) (by omega)
  have hm0 : (m == 0) = false := by simp; omega
  have hm1 : ¬ m = 0 := by omega
  obtain ⟨hw1, hw3⟩ := hw
  obtain ⟨hw4, hw5⟩ := hw2
  go_enter Try.func83, Try.ntmps83
  go_wp2
  go_ret
  exact ⟨rfl, rfl⟩
set_option maxHeartbeats 400000 in
theorem below_any (n m : Int) (w : World) : Calls Try.prog 93 #[.int .i64 n, .int .i64 m] w fun e w' => e = .returned (.bool (decide (0 ≤ n ∧ n < m))) ∧ w' = w := by
  by_cases h0 : 0 ≤ n
  · have d0 : decide (0 ≤ n) = true := by simp; omega
    have e : Hid (decide (0 ≤ n ∧ n < m) = decide (n < m)) := by show _ = _; simp [h0]
    rw [e.out]
    go_enter Try.func93, Try.ntmps93
    go_wp2
    go_ret
    exact ⟨rfl, rfl⟩
  · have d0 : decide (0 ≤ n) = false := by simp; omega
    have e : Hid (decide (0 ≤ n ∧ n < m) = false) := by show _ = _; simp; omega
    rw [e.out]
    go_enter Try.func93, Try.ntmps93
    go_wp2
    go_ret
    exact ⟨rfl, rfl⟩
set_option maxHeartbeats 400000 in
theorem isMod_any (m : Int) (w : World) : Calls Try.prog 92 #[.int .i64 m] w fun e w' => e = .returned (.bool (decide (2 ≤ m ∧ m ≤ 64))) ∧ w' = w := by
  by_cases h0 : 2 ≤ m
  · have d0 : decide (2 ≤ m) = true := by simp; omega
    have e : Hid (decide (2 ≤ m ∧ m ≤ 64) = decide (m ≤ 64)) := by show _ = _; simp [h0]
    rw [e.out]
    go_enter Try.func92, Try.ntmps92
    go_wp2
    go_ret
    exact ⟨rfl, rfl⟩
  · have d0 : decide (2 ≤ m) = false := by simp; omega
    have e : Hid (decide (2 ≤ m ∧ m ≤ 64) = false) := by show _ = _; simp; omega
    rw [e.out]
    go_enter Try.func92, Try.ntmps92
    go_wp2
    go_ret
    exact ⟨rfl, rfl⟩
theorem Wn.wrpTo {z D : Int} (hD : z = D) (h : -9223372036854775808 ≤ z) (h2 : z ≤ 9223372036854775807) : IntKind.i64.wrap z = D ∧ wrap64 z = D := by
  subst hD; exact Wn.wrp h h2
set_option maxHeartbeats 1000000 in
theorem ahead_go (a b m D R : Int) (bm ba bb : Bool) (HM : Hid (∀ w, Calls Try.prog 92 #[.int .i64 m] w fun e w' => e = .returned (.bool bm) ∧ w' = w))
    (HA : Hid (∀ w, Calls Try.prog 93 #[.int .i64 a, .int .i64 m] w fun e w' => e = .returned (.bool ba) ∧ w' = w))
    (HB : Hid (∀ w, Calls Try.prog 93 #[.int .i64 b, .int .i64 m] w fun e w' => e = .returned (.bool bb) ∧ w' = w))
    (HO : Hid (bm = true → ba = true → bb = true → ∀ w, Calls Try.prog 83 #[.int .i64 b, .int .i64 D, .int .i64 m] w fun e w' => e = .returned (.int .i64 R) ∧ w' = w))
    (hw1 : bm = true → ba = true → bb = true → IntKind.i64.wrap (m - a) = D) (hw2 : bm = true → ba = true → bb = true → wrap64 (m - a) = D) (hR : Hid (¬ (bm = true ∧ ba = true ∧ bb = true) → R = -1)) (w : World) :
    Calls Try.prog 86 #[.int .i64 a, .int .i64 b, .int .i64 m] w fun e w' => e = .returned (.int .i64 R) ∧ w' = w := by
  cases bm with
  | false =>
    obtain rfl := hR.out (by simp)
    clear HO hw1 hw2 hR
    go_enter Try.func86, Try.ntmps86
    go_wp2_with (go_at_call 92; refine (HM.out _).mono ?_; rintro e w2 ⟨rfl, rfl⟩)
    go_ret
    exact ⟨rfl, rfl⟩
  | true => cases ba with
    | false =>
      obtain rfl := hR.out (by simp)
      clear HO hw1 hw2 hR
      go_enter Try.func86, Try.ntmps86
      go_wp2_with (first
        | (go_at_call 92; refine (HM.out _).mono ?_; rintro e w2 ⟨rfl, rfl⟩)
        | (go_at_call 93; refine (HA.out _).mono ?_; rintro e w2 ⟨rfl, rfl⟩))
      go_ret
      exact ⟨rfl, rfl⟩
    | true => cases bb with
      | false =>
        obtain rfl := hR.out (by simp)
        clear HO hw1 hw2 hR
        go_enter Try.func86, Try.ntmps86
        go_wp2_with (first
          | (go_at_call 92; refine (HM.out _).mono ?_; rintro e w2 ⟨rfl, rfl⟩)
          | (go_at_call 93; first | (with_reducible refine (HA.out _).mono ?_; rintro e w2 ⟨rfl, rfl⟩) | (with_reducible refine (HB.out _).mono ?_; rintro e w2 ⟨rfl, rfl⟩)))
        go_ret
        exact ⟨rfl, rfl⟩
      | true =>
        have hO := Rg.hid (HO.out rfl rfl rfl)
        replace hw1 := hw1 rfl rfl rfl
        replace hw2 := hw2 rfl rfl rfl
        clear HO hR
        go_enter Try.func86, Try.ntmps86
        go_wp2_with (first
          | (go_at_call 92; refine (HM.out _).mono ?_; rintro e w2 ⟨rfl, rfl⟩)
          | (go_at_call 93; first | (with_reducible refine (HA.out _).mono ?_; rintro e w2 ⟨rfl, rfl⟩) | (with_reducible refine (HB.out _).mono ?_; rintro e w2 ⟨rfl, rfl⟩))
          | (go_at_call 83; refine (hO.out _).mono ?_; rintro e w2 ⟨rfl, rfl⟩))
        go_ret
        exact ⟨rfl, rfl⟩
theorem ahead_any (a b m : Int) (w : World) : Calls Try.prog 86 #[.int .i64 a, .int .i64 b, .int .i64 m] w fun e w' => e = .returned (.int .i64 (Wn.ahead a b m)) ∧ w' = w := by
  refine ahead_go a b m (m - a) _ _ _ _ (isMod_any m) (below_any a m) (below_any b m) ?_ ?_ ?_ ?_ w
  · intro h1 h2 h3 W
    have h1 := of_decide_eq_true h1; have h2 := of_decide_eq_true h2; have h3 := of_decide_eq_true h3
    have hr : (b + (m - a)) % m = Wn.ahead a b m := by rw [Wn.ahead_eq ⟨h1.1, h1.2, h2.1, h2.2, h3.1, h3.2⟩, show b + (m - a) = b - a + m by omega]
    rw [← hr]
    exact onward_any b (m - a) m (by omega) (by omega) (by omega) (by omega) (by omega) (by omega) W
  · intro h1 h2 h3
    have h1 := of_decide_eq_true h1; have h2 := of_decide_eq_true h2
    exact (Wn.wrp (z := m - a) (by omega) (by omega)).1
  · intro h1 h2 h3
    have h1 := of_decide_eq_true h1; have h2 := of_decide_eq_true h2
    exact (Wn.wrp (z := m - a) (by omega) (by omega)).2
  · intro h
    simp only [decide_eq_true_eq] at h
    exact Wn.ahead_no (by omega)
end Go.Proofs.Ytlclfkogbfigbaa
