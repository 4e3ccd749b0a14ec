/-
  Layer 5, Order: rows of jobs that are turned in their place; swapRange.
-/
import Derived.Test.YthjlhbbhdliffaaDoorJLong
namespace Go.Proofs.YthjlhbbhdliffaaDoor
open Go.RowKit

/-- a job's cells -/
def cj (j : Job.Jb) : List Value := [.int .i64 j.g, .int .i64 j.n, .int .i64 j.k, .string j.u, .string j.f, .string j.t, .string j.c, .int .i64 j.z]
/-- a row's cells -/
def flat (d : List Job.Jb) : List Value := d.flatMap cj
theorem flat_nil : flat [] = [] := rfl
theorem flat_cons (j : Job.Jb) (d : List Job.Jb) : flat (j :: d) = cj j ++ flat d := by simp [flat]
theorem flat_append (a b : List Job.Jb) : flat (a ++ b) = flat a ++ flat b := by simp [flat]
theorem flat_length : ∀ d : List Job.Jb, (flat d).length = d.length * 8
  | [] => rfl
  | j :: d => by rw [flat_cons, List.length_append, flat_length d, List.length_cons]; simp only [cj, List.length_cons, List.length_nil]; omega

/-- the row in its block, the rest as it was -/
structure SW (g : Nat) (rest : List Value) (w0 : World) (d : List Job.Jb) (W : World) : Prop where
  blk : W.heap[g]? = some (.cells (flat d ++ rest).toArray 25 (0, 0))
  bel : Below w0.heap.size w0 W

theorem SW.lt {g : Nat} {rest : List Value} {w0 W : World} {d : List Job.Jb} (h : SW g rest w0 d W) : g < W.heap.size := by
  rcases Nat.lt_or_ge g W.heap.size with h' | h'
  · exact h'
  · have := h.blk; rw [Array.getElem?_eq_none h'] at this; cases this
theorem SW.cell {g : Nat} {rest : List Value} {w0 W : World} {d : List Job.Jb} (h : SW g rest w0 d W) (i : Nat) : W.cell? ⟨g, i, none⟩ = (flat d ++ rest)[i]? := by
  rw [Lib.cell_of_heap h.blk i]; simp
theorem SW.thaw {g : Nat} {rest : List Value} {w0 W : World} {d : List Job.Jb} (h : SW g rest w0 d W) (i : Nat) : W.frozen? ⟨g, i, none⟩ = false := by
  have := h.blk; unfold World.frozen?; simp [this]
theorem SW.below {g : Nat} {rest : List Value} {w0 W W' : World} {d : List Job.Jb} (h : SW g rest w0 d W) (hb : Below W.heap.size W W') : SW g rest w0 d W' :=
  ⟨by rw [hb.block g h.lt]; exact h.blk, h.bel.trans (hb.mono h.bel.size)⟩
theorem SW.drew {g : Nat} {rest : List Value} {w0 W : World} {d : List Job.Jb} (h : SW g rest w0 d W) : SW g rest w0 d W.drew := ⟨h.blk, h.bel.drew⟩

theorem flat_at {d : List Job.Jb} {i : Nat} (hi : i < d.length) (rest : List Value) : flat d ++ rest = flat (d.take i) ++ (cj d[i] ++ (flat (d.drop (i + 1)) ++ rest)) := by
  conv => lhs; rw [← List.take_append_drop i d, List.drop_eq_getElem_cons hi, flat_append, flat_cons]
  simp [List.append_assoc]
theorem SW.job {g : Nat} {rest : List Value} {w0 W : World} {d : List Job.Jb} (h : SW g rest w0 d W) {i : Nat} (hi : i < d.length) : JAt W g (i * 8) d[i] := by
  have hl : (flat (d.take i)).length = i * 8 := by rw [flat_length, List.length_take]; congr 1; omega
  have e (o : Nat) (ho : o < 8) : W.cell? ⟨g, i * 8 + o, none⟩ = (cj d[i])[o]? := by
    rw [h.cell, flat_at hi, List.getElem?_append_right (by omega), hl, show i * 8 + o - i * 8 = o by omega, List.getElem?_append_left (by simpa [cj] using ho)]
  exact ⟨e 0 (by omega), e 1 (by omega), e 2 (by omega), e 3 (by omega), e 4 (by omega), e 5 (by omega), e 6 (by omega), e 7 (by omega)⟩

theorem set_at {α : Type} (A : List α) (b : α) (R : List α) (v : α) (o : Nat) (ho : A.length = o) : (A ++ b :: R).set o v = A ++ v :: R := by
  subst ho; simp
/-- eight stores -/
theorem SW.put {g : Nat} {rest : List Value} {w0 W : World} {d : List Job.Jb} (h : SW g rest w0 d W) (hB : w0.heap.size ≤ g) {i : Nat} (hi : i < d.length) (j : Job.Jb) :
    SW g rest w0 (d.set i j) ((((((((W.setCell ⟨g, i * 8, none⟩ (.int .i64 j.g)).setCell ⟨g, i * 8 + 1, none⟩ (.int .i64 j.n)).setCell ⟨g, i * 8 + 2, none⟩ (.int .i64 j.k)).setCell ⟨g, i * 8 + 3, none⟩ (.string j.u)).setCell ⟨g, i * 8 + 4, none⟩ (.string j.f)).setCell ⟨g, i * 8 + 5, none⟩ (.string j.t)).setCell ⟨g, i * 8 + 6, none⟩ (.string j.c)).setCell ⟨g, i * 8 + 7, none⟩ (.int .i64 j.z)) := by
  constructor
  · have hl : (flat (d.take i)).length = i * 8 := by rw [flat_length, List.length_take]; congr 1; omega
    have hd : flat (d.set i j) ++ rest = flat (d.take i) ++ (cj j ++ (flat (d.drop (i + 1)) ++ rest)) := by
      rw [flat_at (d := d.set i j) (i := i) (by simpa using hi), List.getElem_set_self, List.take_set, List.drop_set, if_pos (by omega)]
      congr 2
      rw [List.set_eq_of_length_le (by simp; omega)]
    have h0 := h.blk
    rw [flat_at hi] at h0
    rw [hd]
    obtain ⟨u0, u1, u2, u3, u4, u5, u6, u7, hu⟩ : ∃ u0 u1 u2 u3 u4 u5 u6 u7, cj d[i] = [u0, u1, u2, u3, u4, u5, u6, u7] := ⟨_, _, _, _, _, _, _, _, rfl⟩
    rw [hu] at h0
    generalize flat (d.take i) = A at *
    generalize flat (d.drop (i + 1)) ++ rest = R at *
    have s0 := Go.heap_setCell_same W g (i * 8) _ _ (.int .i64 j.g) h0
    have s1 := Go.heap_setCell_same _ g (i * 8 + 1) _ _ (.int .i64 j.n) s0
    have s2 := Go.heap_setCell_same _ g (i * 8 + 2) _ _ (.int .i64 j.k) s1
    have s3 := Go.heap_setCell_same _ g (i * 8 + 3) _ _ (.string j.u) s2
    have s4 := Go.heap_setCell_same _ g (i * 8 + 4) _ _ (.string j.f) s3
    have s5 := Go.heap_setCell_same _ g (i * 8 + 5) _ _ (.string j.t) s4
    have s6 := Go.heap_setCell_same _ g (i * 8 + 6) _ _ (.string j.c) s5
    have s7 := Go.heap_setCell_same _ g (i * 8 + 7) _ _ (.int .i64 j.z) s6
    rw [s7]
    clear s0 s1 s2 s3 s4 s5 s6 s7 h0 hd
    refine congrArg (fun x => some (Obj.cells x 25 (0, 0))) ?_
    simp only [List.setIfInBounds_toArray]
    refine congrArg List.toArray ?_
    simp only [List.cons_append, List.nil_append, cj]
    rw [set_at A _ _ _ _ hl]
    rw [show A ++ Value.int .i64 j.g :: u1 :: u2 :: u3 :: u4 :: u5 :: u6 :: u7 :: R = (A ++ [.int .i64 j.g]) ++ u1 :: u2 :: u3 :: u4 :: u5 :: u6 :: u7 :: R by simp, set_at _ _ _ _ _ (by simp [hl])]
    rw [show (A ++ [Value.int .i64 j.g]) ++ .int .i64 j.n :: u2 :: u3 :: u4 :: u5 :: u6 :: u7 :: R = (A ++ [.int .i64 j.g, .int .i64 j.n]) ++ u2 :: u3 :: u4 :: u5 :: u6 :: u7 :: R by simp, set_at _ _ _ _ _ (by simp [hl])]
    rw [show (A ++ [Value.int .i64 j.g, .int .i64 j.n]) ++ .int .i64 j.k :: u3 :: u4 :: u5 :: u6 :: u7 :: R = (A ++ [.int .i64 j.g, .int .i64 j.n, .int .i64 j.k]) ++ u3 :: u4 :: u5 :: u6 :: u7 :: R by simp, set_at _ _ _ _ _ (by simp [hl])]
    rw [show (A ++ [Value.int .i64 j.g, .int .i64 j.n, .int .i64 j.k]) ++ .string j.u :: u4 :: u5 :: u6 :: u7 :: R = (A ++ [.int .i64 j.g, .int .i64 j.n, .int .i64 j.k, .string j.u]) ++ u4 :: u5 :: u6 :: u7 :: R by simp, set_at _ _ _ _ _ (by simp [hl])]
    rw [show (A ++ [Value.int .i64 j.g, .int .i64 j.n, .int .i64 j.k, .string j.u]) ++ .string j.f :: u5 :: u6 :: u7 :: R = (A ++ [.int .i64 j.g, .int .i64 j.n, .int .i64 j.k, .string j.u, .string j.f]) ++ u5 :: u6 :: u7 :: R by simp, set_at _ _ _ _ _ (by simp [hl])]
    rw [show (A ++ [Value.int .i64 j.g, .int .i64 j.n, .int .i64 j.k, .string j.u, .string j.f]) ++ .string j.t :: u6 :: u7 :: R = (A ++ [.int .i64 j.g, .int .i64 j.n, .int .i64 j.k, .string j.u, .string j.f, .string j.t]) ++ u6 :: u7 :: R by simp, set_at _ _ _ _ _ (by simp [hl])]
    rw [show (A ++ [Value.int .i64 j.g, .int .i64 j.n, .int .i64 j.k, .string j.u, .string j.f, .string j.t]) ++ .string j.c :: u7 :: R = (A ++ [.int .i64 j.g, .int .i64 j.n, .int .i64 j.k, .string j.u, .string j.f, .string j.t, .string j.c]) ++ u7 :: R by simp, set_at _ _ _ _ _ (by simp [hl])]
    simp
  · exact (((((((h.bel.setCell hB _).setCell hB _).setCell hB _).setCell hB _).setCell hB _).setCell hB _).setCell hB _).setCell hB _
end Go.Proofs.YthjlhbbhdliffaaDoor
