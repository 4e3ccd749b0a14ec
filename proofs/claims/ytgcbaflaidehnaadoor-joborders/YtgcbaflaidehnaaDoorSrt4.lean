/-
  Layer 5, Order: rotate.
-/
import Derived.Test.YtgcbaflaidehnaaDoorSrtBun
namespace Go.Proofs.YtgcbaflaidehnaaDoor
open Go.RowKit

namespace Job
theorem swp_get {d : List Jb} {p q : Nat} (hp : p < d.length) (hq : q < d.length) (i : Nat) : (swp d p q)[i]? = if i = q then d[p]? else if i = p then d[q]? else d[i]? := by
  unfold swp
  rw [at_bang hp, at_bang hq]
  by_cases h1 : i = q
  · subst h1
    rw [if_pos rfl, List.getElem?_set_self (by simpa using hq), List.getElem?_eq_getElem hp]
  · rw [if_neg h1, List.getElem?_set_ne (fun e => h1 e.symm)]
    by_cases h2 : i = p
    · subst h2
      rw [if_pos rfl, List.getElem?_set_self hp, List.getElem?_eq_getElem hq]
    · rw [if_neg h2, List.getElem?_set_ne (fun e => h2 e.symm)]
theorem swapR_get (d : List Jb) (a b : Nat) : ∀ n, a + n ≤ b → b + n ≤ d.length → ∀ i, (swapR d a b n)[i]? = if a ≤ i ∧ i < a + n then d[b + (i - a)]? else if b ≤ i ∧ i < b + n then d[a + (i - b)]? else d[i]?
  | 0, _, _, i => by rw [swapR, if_neg (by omega), if_neg (by omega)]
  | n + 1, h1, h2, i => by
    have hl := swapR_length d a b n
    have ih := swapR_get d a b n (by omega) (by omega)
    rw [swapR, swp_get (by omega) (by omega), ih, ih, ih]
    by_cases c1 : i = b + n
    · subst c1
      rw [if_pos rfl, if_neg (by omega), if_neg (by omega), if_neg (by omega), if_pos (by omega)]
      congr 1; omega
    · rw [if_neg c1]
      by_cases c2 : i = a + n
      · subst c2
        rw [if_pos rfl, if_neg (by omega), if_neg (by omega), if_pos (by omega)]
        congr 1; omega
      · rw [if_neg c2]
        by_cases c3 : a ≤ i ∧ i < a + n
        · rw [if_pos c3, if_pos (by omega)]
        · have c5 : ¬ (a ≤ i ∧ i < a + (n + 1)) := by omega
          by_cases c4 : b ≤ i ∧ i < b + n
          · have c6 : b ≤ i ∧ i < b + (n + 1) := by omega
            rw [if_neg c3, if_pos c4, if_neg c5, if_pos c6]
          · have c6 : ¬ (b ≤ i ∧ i < b + (n + 1)) := by omega
            rw [if_neg c3, if_neg c4, if_neg c5, if_neg c6]
/-- two rows of one length change their places -/
theorem swapR_seg (P X M Y Q : List Jb) (n : Nat) (hX : X.length = n) (hY : Y.length = n) : swapR (P ++ X ++ M ++ Y ++ Q) P.length (P.length + X.length + M.length) n = P ++ Y ++ M ++ X ++ Q := by
  apply List.ext_getElem?
  intro i
  rw [swapR_get _ _ _ _ (by omega) (by simp; omega)]
  by_cases c1 : P.length ≤ i ∧ i < P.length + n
  · rw [if_pos c1]
    rw [List.append_assoc (P ++ X ++ M), List.getElem?_append_right (by simp; omega), List.getElem?_append_left (by simp; omega)]
    rw [List.append_assoc (P ++ Y ++ M), List.append_assoc (P ++ Y), List.getElem?_append_left (by simp; omega), List.getElem?_append_right (by omega)]
    congr 1; simp; omega
  · rw [if_neg c1]
    by_cases c2 : P.length + X.length + M.length ≤ i ∧ i < P.length + X.length + M.length + n
    · rw [if_pos c2]
      rw [List.append_assoc (P ++ X ++ M), List.append_assoc (P ++ X), List.getElem?_append_left (by simp; omega), List.getElem?_append_right (by omega)]
      rw [List.append_assoc (P ++ Y ++ M), List.getElem?_append_right (by simp; omega), List.getElem?_append_left (by simp; omega)]
      congr 1; simp; omega
    · rw [if_neg c2]
      by_cases c3 : i < P.length
      · simp only [List.append_assoc]
        rw [List.getElem?_append_left c3, List.getElem?_append_left c3]
      · by_cases c4 : i < P.length + X.length + M.length
        · rw [List.append_assoc (P ++ X ++ M), List.getElem?_append_left (by simp; omega), List.getElem?_append_right (by simp; omega)]
          rw [List.append_assoc (P ++ Y ++ M), List.getElem?_append_left (by simp; omega), List.getElem?_append_right (by simp; omega)]
          congr 1; simp; omega
        · rw [List.getElem?_append_right (by simp; omega), List.getElem?_append_right (by simp; omega)]
          congr 1; simp; omega
/-- the loop's state: X and Y are still to change their places, F is what comes of it -/
structure Rot (F : List Jb) (m i j : Nat) (dk : List Jb) : Prop where
  ex : ∃ P X Y Q, dk = P ++ X ++ Y ++ Q ∧ P ++ Y ++ X ++ Q = F ∧ X.length = i ∧ Y.length = j ∧ P.length + i = m
theorem Rot.len {F : List Jb} {m i j : Nat} {dk : List Jb} (h : Rot F m i j dk) : dk.length = F.length ∧ i ≤ m ∧ m + j ≤ dk.length := by
  obtain ⟨P, X, Y, Q, rfl, rfl, rfl, rfl, rfl⟩ := h.ex
  simp; omega
theorem Rot.more {F : List Jb} {m i j : Nat} {dk : List Jb} (h : Rot F m i j dk) (hij : j < i) : Rot F m (i - j) j (swapR dk (m - i) m j) := by
  obtain ⟨P, X, Y, Q, rfl, rfl, hX, hY, hm⟩ := h.ex
  obtain ⟨X1, X2, rfl, hx⟩ : ∃ X1 X2, X = X1 ++ X2 ∧ X1.length = j := ⟨X.take j, X.drop j, (List.take_append_drop j X).symm, by rw [List.length_take]; omega⟩
  have hx2 : X2.length = i - j := by simp at hX; omega
  have e := swapR_seg P X1 X2 Y Q j hx hY
  rw [show m - i = P.length by omega, show m = P.length + X1.length + X2.length by simp at hX; omega]
  rw [show P ++ (X1 ++ X2) ++ Y ++ Q = P ++ X1 ++ X2 ++ Y ++ Q by simp, e]
  exact ⟨P ++ Y, X2, X1, Q, by simp, by simp, hx2, hx, by simp; omega⟩
theorem Rot.less {F : List Jb} {m i j : Nat} {dk : List Jb} (h : Rot F m i j dk) (hij : i < j) : Rot F m i (j - i) (swapR dk (m - i) (m + j - i) i) := by
  obtain ⟨P, X, Y, Q, rfl, rfl, hX, hY, hm⟩ := h.ex
  obtain ⟨Y1, Y2, rfl, hy⟩ : ∃ Y1 Y2, Y = Y1 ++ Y2 ∧ Y1.length = j - i := ⟨Y.take (j - i), Y.drop (j - i), (List.take_append_drop (j - i) Y).symm, by rw [List.length_take]; omega⟩
  have hy2 : Y2.length = i := by simp at hY; omega
  have e := swapR_seg P X Y1 Y2 Q i hX hy2
  rw [show m - i = P.length by omega, show m + j - i = P.length + X.length + Y1.length by omega]
  rw [show P ++ X ++ (Y1 ++ Y2) ++ Q = P ++ X ++ Y1 ++ Y2 ++ Q by simp, e]
  exact ⟨P, Y2, Y1, X ++ Q, by simp, by simp, hy2, hy, by omega⟩
theorem Rot.last {F : List Jb} {m i : Nat} {dk : List Jb} (h : Rot F m i i dk) : swapR dk (m - i) m i = F := by
  obtain ⟨P, X, Y, Q, rfl, rfl, hX, hY, hm⟩ := h.ex
  have e := swapR_seg P X [] Y Q i hX hY
  rw [show m - i = P.length by omega, show m = P.length + X.length + ([] : List Jb).length by simp; omega]
  simpa using e
end Job

theorem hide {p : Prop} (h : p) : Hid p := h
/-- the state behind -/
def RowPost (g : Nat) (rest : List Value) (w0 : World) (F : List Job.Jb) (e : Ending) (w' : World) : Prop := e = .returned (.tuple #[]) ∧ SW g rest w0 F w'

set_option maxHeartbeats 4000000 in
set_option maxRecDepth 100000 in
theorem rotate_any (fv : Value) (g : Nat) (rest : List Value) (w0 : World) (hB : w0.heap.size ≤ g) (d F : List Job.Jb) (cap a m b : Nat) (hn : d.length ≤ 1000) (ham : a < m) (hmb : m < b) (hR : Job.Rot F m (m - a) (b - m) d) (w : World) (hw : SW g rest w0 d w) :
    Calls Tryd.prog 45 #[.slice (some ⟨g, 0, none⟩) d.length cap, .int .i64 a, .int .i64 m, .int .i64 b, fv] w fun e w' => RowPost g rest w0 F e w' := by
  have HS : Hid (∀ (dk : List Job.Jb) (p q n : Nat) (W : World), dk.length = d.length → p + n ≤ q → q + n ≤ d.length → SW g rest w0 dk W → Calls Tryd.prog 59 #[.slice (some ⟨g, 0, none⟩) d.length cap, .int .i64 p, .int .i64 q, .int .i64 n, fv] W fun e w' => RowPost g rest w0 (Job.swapR dk p q n) e w') := fun dk p q n W h1 h2 h3 h4 => by
    have := swapRange_any fv g rest w0 hB dk cap p q n (by omega) h2 (by omega) W h4
    rw [h1] at this
    exact this
  have HW : Hid (SW g rest w0 d w) := hw
  have HR : Hid (Job.Rot F m (m - a) (b - m) d) := hR
  have hbd : b ≤ d.length := by have := hR.len.2.2; omega
  have hF : Hid (F.length = d.length) := hR.len.1.symm
  generalize d.length = N at *
  clear hw hR
  go_enter Tryd.func45, Tryd.ntmps45
  go_wp2
  go_loopw [10, 11] (fun vi vj wr => ∃ (i j : Nat) (dk : List Job.Jb), 1 ≤ i ∧ 1 ≤ j ∧ i ≤ m ∧ m + j ≤ N ∧ vi = .int .i64 i ∧ vj = .int .i64 j ∧ Hid (Job.Rot F m i j dk) ∧ Hid (SW g rest w0 dk wr)) (fun vi vj _ => (intOf vi).toNat + (intOf vj).toNat)
  case atStart => exact ⟨m - a, b - m, d, by omega, by omega, by omega, by omega, by go_num, by go_num, HR, HW⟩
  case round =>
    obtain ⟨i, j, dk, hi, hj, him, hjm, rfl, rfl, hR, hS⟩ := hrel
    have hdl : dk.length = N := by rw [hR.out.len.1]; exact hF.out
    have HS' : Hid (∀ (p q n : Nat), p + n ≤ q → q + n ≤ N → Calls Tryd.prog 59 #[.slice (some ⟨g, 0, none⟩) N cap, .int .i64 p, .int .i64 q, .int .i64 n, fv] wr fun e w' => RowPost g rest w0 (Job.swapR dk p q n) e w') := fun p q n h1 h2 => HS.out dk p q n wr hdl h1 h2 hS.out
    have hless : Hid (i < j → Job.Rot F m i (j - i) (Job.swapR dk (m - i) (m + j - i) i)) := hR.out.less
    have hmore : Hid (j < i → Job.Rot F m (i - j) j (Job.swapR dk (m - i) m j)) := hR.out.more
    have hlast : Hid (i = j → Job.swapR dk (m - i) m i = F) := fun h => by subst h; exact hR.out.last
    clear HS hR hS hdl
    rcases Nat.lt_trichotomy i j with hij | hij | hij
    · have d1 : ((i : Int) != (j : Int)) = true := by simp; omega
      have d2 : decide ((j : Int) < (i : Int)) = false := by simp; omega
      have d1' : ((i : Int) == (j : Int)) = false := by simp; omega
      have d1'' : (i != j) = true := by simp; omega
      have d1''' : (i == j) = false := by simp; omega
      have HC := HS'.out (m - i) (m + j - i) i (by omega) (by omega)
      rw [show ((m - i : Nat) : Int) = (m : Int) - (i : Int) by omega, show ((m + j - i : Nat) : Int) = (m : Int) + (j : Int) - (i : Int) by omega] at HC
      replace HC := hide HC
      clear HS' hlast hmore
      go_wp2_with (go_at_call 59; refine HC.out.mono ?_; rintro e w2 ⟨rfl, h2⟩; replace h2 := hide h2)
      go_roundw
      case rel => exact ⟨i, j - i, _, hi, by omega, him, by omega, rfl, by go_num, hless.out hij, h2⟩
      case measure => simp [intOf]; omega
    · subst hij
      have HC := HS'.out (m - i) m i (by omega) (by omega)
      rw [show ((m - i : Nat) : Int) = (m : Int) - (i : Int) by omega] at HC
      replace HC := hide HC
      clear HS' hless hmore
      go_wp2_with (go_at_call 59; refine HC.out.mono ?_; rintro e w2 ⟨rfl, h2⟩; replace h2 := hide h2)
      go_end0
      exact ⟨rfl, by have := h2.out; rw [hlast.out trivial] at this; exact this⟩
    · have d1 : ((i : Int) != (j : Int)) = true := by simp; omega
      have d2 : decide ((j : Int) < (i : Int)) = true := by simp; omega
      have d1' : ((i : Int) == (j : Int)) = false := by simp; omega
      have d1'' : (i != j) = true := by simp; omega
      have d1''' : (i == j) = false := by simp; omega
      have HC := HS'.out (m - i) m j (by omega) (by omega)
      rw [show ((m - i : Nat) : Int) = (m : Int) - (i : Int) by omega] at HC
      replace HC := hide HC
      clear HS' hless hlast
      go_wp2_with (go_at_call 59; refine HC.out.mono ?_; rintro e w2 ⟨rfl, h2⟩; replace h2 := hide h2)
      go_roundw
      case rel => exact ⟨i - j, j, _, by omega, hj, by omega, hjm, by go_num, rfl, hmore.out hij, h2⟩
      case measure => simp [intOf]; omega
end Go.Proofs.YtgcbaflaidehnaaDoor
