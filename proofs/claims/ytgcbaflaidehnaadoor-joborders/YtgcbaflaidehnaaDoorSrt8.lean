/-
  Layer 5, Order: symMerge whole; stable.
-/
import Derived.Test.YtgcbaflaidehnaaDoorSrt7
namespace Go.Proofs.YtgcbaflaidehnaaDoor
open Go.RowKit

namespace Job
/-- the row from a to b is in its order, those of one id as they stood; the rest as it was -/
structure Turn (a b : Nat) (dk d' : List Jb) : Prop where
  len : d'.length = dk.length
  same : ∀ x y, fk x y d' = fk x y dk
  left : ∀ i, i < a → d'[i]! = dk[i]!
  right : ∀ i, b ≤ i → d'[i]! = dk[i]!
  srt : ∀ i j, a ≤ i → i < j → j < b → Le d'[i]! d'[j]!
theorem seg (d : List Jb) (a b : Nat) (hab : a ≤ b) : d = d.take a ++ (d.drop a).take (b - a) ++ d.drop b := by
  have h1 := List.take_append_drop a d
  have h2 := List.take_append_drop (b - a) (d.drop a)
  rw [List.drop_drop, show a + (b - a) = b by omega] at h2
  rw [List.append_assoc, h2, h1]
theorem turn_of {d S : List Jb} {a b : Nat} (hab : a ≤ b) (hb : b ≤ d.length) (h : St ((d.drop a).take (b - a)) S) : Turn a b d (d.take a ++ S ++ d.drop b) := by
  have hl : S.length = b - a := by rw [h.len, List.length_take, List.length_drop]; omega
  have hta : (d.take a).length = a := by rw [List.length_take]; omega
  refine ⟨by simp; omega, fun x y => ?_, fun i hi => ?_, fun i hi => ?_, fun i j h1 h2 h3 => ?_⟩
  · conv => rhs; rw [seg d a b hab]
    simp only [fk_append, h.same]
  · rw [List.append_assoc, getElem!_def, getElem!_def, List.getElem?_append_left (by omega), List.getElem?_take_of_lt hi]
  · rw [getElem!_def, getElem!_def, List.getElem?_append_right (by simp; omega), List.getElem?_drop]
    congr 2
    simp; omega
  · have e (k : Nat) (hk : a ≤ k) (hk' : k < b) : (d.take a ++ S ++ d.drop b)[k]! = S[k - a]! := by
      rw [getElem!_def, getElem!_def, List.getElem?_append_left (by simp; omega), List.getElem?_append_right (by omega), hta]
    rw [e i h1 (by omega), e j (by omega) h3]
    exact srt_at h.srt (by omega) (by omega)
def Chu (bs lo hi : Nat) (d : List Jb) : Prop := ∀ i j, lo ≤ i → i < j → j < hi → i / bs = j / bs → Le d[i]! d[j]!
theorem srt_seg {d : List Jb} {a b : Nat} (hb : b ≤ d.length) (h : ∀ i j, a ≤ i → i < j → j < b → Le d[i]! d[j]!) : Srt ((d.drop a).take (b - a)) := by
  unfold Srt
  rw [List.pairwise_iff_getElem]
  intro i j hi hj hij
  rw [List.length_take, List.length_drop] at hi hj
  have := h (a + i) (a + j) (by omega) (by omega) (by omega)
  rw [at_bang (by omega), at_bang (by omega)] at this
  simpa using this
theorem srt_all {d : List Jb} (h : ∀ i j, i < j → j < d.length → Le d[i]! d[j]!) : Srt d := by
  unfold Srt
  rw [List.pairwise_iff_getElem]
  intro i j hi hj hij
  have := h i j hij hj
  rwa [at_bang hi, at_bang hj] at this
end Job

theorem symMerge_any (g : Nat) (rest : List Value) (w0 : World) (hB : w0.heap.size ≤ g) (cap : Nat) : ∀ (n : Nat) (P A B Q : List Job.Jb) (w : World), A.length + B.length ≤ n → 1 ≤ A.length → 1 ≤ B.length → Job.Srt A → Job.Srt B → (P ++ A ++ B ++ Q).length ≤ 1000 → SW g rest w0 (P ++ A ++ B ++ Q) w →
    Calls Tryd.prog 36 #[.slice (some ⟨g, 0, none⟩) (P ++ A ++ B ++ Q).length cap, .int .i64 P.length, .int .i64 (P.length + A.length : Nat), .int .i64 (P.length + A.length + B.length : Nat), .func (.func 13) #[] #[]] w fun e w' => SegPost g rest w0 P (A ++ B) Q e w'
  | 0, P, A, B, Q, w, h1, h2, h3, _, _, _, _ => by omega
  | n + 1, P, A, B, Q, w, h1, h2, h3, h4, h5, h6, h7 => by
    by_cases hA : A.length = 1
    · obtain ⟨x, rfl⟩ : ∃ x, A = [x] := by
        match A, hA with
        | [x], _ => exact ⟨x, rfl⟩
      exact symOne_any g rest w0 hB P B Q x cap h6 h5 h3 w h7
    · by_cases hB1 : B.length = 1
      · obtain ⟨y, rfl⟩ : ∃ y, B = [y] := by
          match B, hB1 with
          | [y], _ => exact ⟨y, rfl⟩
        exact symLast_any g rest w0 hB P A Q y cap h6 h4 (by omega) w h7
      · refine symGen_any g rest w0 hB P A B Q cap h6 h4 h5 (by omega) (by omega) ?_ w h7
        intro P' A' B' Q' W c1 c2 c3 c4 c5 c6 c7
        have := symMerge_any g rest w0 hB cap n P' A' B' Q' W (by omega) c2 c3 c4 c5 (by omega) c7
        rw [c6] at this
        exact this

/-- behind a call: the row is turned -/
def TurnPost (g : Nat) (rest : List Value) (w0 : World) (a b : Nat) (dk : List Job.Jb) (e : Ending) (w' : World) : Prop := e = .returned (.tuple #[]) ∧ ∃ d', Job.Turn a b dk d' ∧ SW g rest w0 d' w'
theorem ins_at (g : Nat) (rest : List Value) (w0 : World) (hB : w0.heap.size ≤ g) (cap : Nat) (d : List Job.Jb) (a b : Nat) (hab : a ≤ b) (hb : b ≤ d.length) (hn : d.length ≤ 1000) (w : World) (hw : SW g rest w0 d w) :
    Calls Tryd.prog 35 #[.slice (some ⟨g, 0, none⟩) d.length cap, .int .i64 a, .int .i64 b, .func (.func 13) #[] #[]] w fun e w' => TurnPost g rest w0 a b d e w' := by
  have hs := Job.seg d a b hab
  have l1 : (d.take a).length = a := by rw [List.length_take]; omega
  have l2 : ((d.drop a).take (b - a)).length = b - a := by rw [List.length_take, List.length_drop]; omega
  have := insertion_any g rest w0 hB (d.take a) ((d.drop a).take (b - a)) (d.drop b) cap (by rw [← hs]; exact hn) w (by rw [← hs]; exact hw)
  rw [← hs, l1, l2, show a + (b - a) = b by omega] at this
  exact this.mono fun e w' ⟨h1, S, h2, h3⟩ => ⟨h1, _, Job.turn_of hab hb h2, h3⟩
theorem sym_at (g : Nat) (rest : List Value) (w0 : World) (hB : w0.heap.size ≤ g) (cap : Nat) (d : List Job.Jb) (a m b : Nat) (ham : a < m) (hmb : m < b) (hb : b ≤ d.length) (hn : d.length ≤ 1000) (h1 : ∀ i j, a ≤ i → i < j → j < m → Job.Le d[i]! d[j]!) (h2 : ∀ i j, m ≤ i → i < j → j < b → Job.Le d[i]! d[j]!) (w : World) (hw : SW g rest w0 d w) :
    Calls Tryd.prog 36 #[.slice (some ⟨g, 0, none⟩) d.length cap, .int .i64 a, .int .i64 m, .int .i64 b, .func (.func 13) #[] #[]] w fun e w' => TurnPost g rest w0 a b d e w' := by
  have e1 : (d.drop a).take (m - a) ++ (d.drop m).take (b - m) = (d.drop a).take (b - a) := by
    have := List.take_append_drop (m - a) ((d.drop a).take (b - a))
    rw [List.take_take, List.drop_take, List.drop_drop, show min (m - a) (b - a) = m - a by omega, show a + (m - a) = m by omega, show b - a - (m - a) = b - m by omega] at this
    exact this
  have hs : d = d.take a ++ (d.drop a).take (m - a) ++ (d.drop m).take (b - m) ++ d.drop b := by
    rw [List.append_assoc (d.take a), e1]; exact Job.seg d a b (by omega)
  have l1 : (d.take a).length = a := by rw [List.length_take]; omega
  have l2 : ((d.drop a).take (m - a)).length = m - a := by rw [List.length_take, List.length_drop]; omega
  have l3 : ((d.drop m).take (b - m)).length = b - m := by rw [List.length_take, List.length_drop]; omega
  have := symMerge_any g rest w0 hB cap _ (d.take a) ((d.drop a).take (m - a)) ((d.drop m).take (b - m)) (d.drop b) w (Nat.le_refl _) (by omega) (by omega) (Job.srt_seg (by omega) h1) (Job.srt_seg hb h2) (by rw [← hs]; exact hn) (by rw [← hs]; exact hw)
  rw [← hs, l1, l2, l3, e1, show a + (m - a) = m by omega, show m + (b - m) = b by omega] at this
  exact this.mono fun e w' ⟨h1, S, h2, h3⟩ => ⟨h1, _, Job.turn_of (by omega) hb h2, h3⟩
end Go.Proofs.YtgcbaflaidehnaaDoor
