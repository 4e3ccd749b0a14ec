/-
  Layer 5, Order: rows of jobs that are turned in their place; swapRange. Layer 5, Order: byId; swapRange. Layer 5, Order: mathematics: jobs in the order of their ids, those of one id as they stood.
-/
import Derived.Test.YtgcbaflaidehnaaDoorJLong
namespace Go.Proofs.YtgcbaflaidehnaaDoor
open Go.RowKit

/-- a job's cells -/
def cj (j : Job.Jb) : List Value := [.int .i64 j.g, .int .i64 j.n, .int .i64 j.k, .string j.u, .string j.f, .string j.t, .string j.c, .int .i64 j.z]
/-- a row's cells -/
def flat (d : List Job.Jb) : List Value := d.flatMap cj
theorem flat_nil : flat [] = [] := rfl
theorem flat_cons (j : Job.Jb) (d : List Job.Jb) : flat (j :: d) = cj j ++ flat d := by simp [flat]
theorem flat_append (a b : List Job.Jb) : flat (a ++ b) = flat a ++ flat b := by simp [flat]
theorem flat_length : ∀ d : List Job.Jb, (flat d).length = d.length * 8
  | [] => rfl
  | j :: d => by rw [flat_cons, List.length_append, flat_length d, List.length_cons]; simp only [cj, List.length_cons, List.length_nil]; omega

/-- the row in its block, the rest as it was -/
structure SW (g : Nat) (rest : List Value) (w0 : World) (d : List Job.Jb) (W : World) : Prop where
  blk : W.heap[g]? = some (.cells (flat d ++ rest).toArray 29 (0, 0))
  bel : Below w0.heap.size w0 W

theorem SW.lt {g : Nat} {rest : List Value} {w0 W : World} {d : List Job.Jb} (h : SW g rest w0 d W) : g < W.heap.size := by
  rcases Nat.lt_or_ge g W.heap.size with h' | h'
  · exact h'
  · have := h.blk; rw [Array.getElem?_eq_none h'] at this; cases this
theorem SW.cell {g : Nat} {rest : List Value} {w0 W : World} {d : List Job.Jb} (h : SW g rest w0 d W) (i : Nat) : W.cell? ⟨g, i, none⟩ = (flat d ++ rest)[i]? := by
  rw [Lib.cell_of_heap h.blk i]; simp
theorem SW.thaw {g : Nat} {rest : List Value} {w0 W : World} {d : List Job.Jb} (h : SW g rest w0 d W) (i : Nat) : W.frozen? ⟨g, i, none⟩ = false := by
  have := h.blk; unfold World.frozen?; simp [this]
theorem SW.below {g : Nat} {rest : List Value} {w0 W W' : World} {d : List Job.Jb} (h : SW g rest w0 d W) (hb : Below W.heap.size W W') : SW g rest w0 d W' :=
  ⟨by rw [hb.block g h.lt]; exact h.blk, h.bel.trans (hb.mono h.bel.size)⟩
theorem SW.drew {g : Nat} {rest : List Value} {w0 W : World} {d : List Job.Jb} (h : SW g rest w0 d W) : SW g rest w0 d W.drew := ⟨h.blk, h.bel.drew⟩

theorem flat_at {d : List Job.Jb} {i : Nat} (hi : i < d.length) (rest : List Value) : flat d ++ rest = flat (d.take i) ++ (cj d[i] ++ (flat (d.drop (i + 1)) ++ rest)) := by
  conv => lhs; rw [← List.take_append_drop i d, List.drop_eq_getElem_cons hi, flat_append, flat_cons]
  simp [List.append_assoc]
theorem SW.job {g : Nat} {rest : List Value} {w0 W : World} {d : List Job.Jb} (h : SW g rest w0 d W) {i : Nat} (hi : i < d.length) : JAt W g (i * 8) d[i] := by
  have hl : (flat (d.take i)).length = i * 8 := by rw [flat_length, List.length_take]; congr 1; omega
  have e (o : Nat) (ho : o < 8) : W.cell? ⟨g, i * 8 + o, none⟩ = (cj d[i])[o]? := by
    rw [h.cell, flat_at hi, List.getElem?_append_right (by omega), hl, show i * 8 + o - i * 8 = o by omega, List.getElem?_append_left (by simpa [cj] using ho)]
  exact ⟨e 0 (by omega), e 1 (by omega), e 2 (by omega), e 3 (by omega), e 4 (by omega), e 5 (by omega), e 6 (by omega), e 7 (by omega)⟩

theorem set_at {α : Type} (A : List α) (b : α) (R : List α) (v : α) (o : Nat) (ho : A.length = o) : (A ++ b :: R).set o v = A ++ v :: R := by
  subst ho; simp
/-- eight stores -/
theorem SW.put {g : Nat} {rest : List Value} {w0 W : World} {d : List Job.Jb} (h : SW g rest w0 d W) (hB : w0.heap.size ≤ g) {i : Nat} (hi : i < d.length) (j : Job.Jb) :
    SW g rest w0 (d.set i j) ((((((((W.setCell ⟨g, i * 8, none⟩ (.int .i64 j.g)).setCell ⟨g, i * 8 + 1, none⟩ (.int .i64 j.n)).setCell ⟨g, i * 8 + 2, none⟩ (.int .i64 j.k)).setCell ⟨g, i * 8 + 3, none⟩ (.string j.u)).setCell ⟨g, i * 8 + 4, none⟩ (.string j.f)).setCell ⟨g, i * 8 + 5, none⟩ (.string j.t)).setCell ⟨g, i * 8 + 6, none⟩ (.string j.c)).setCell ⟨g, i * 8 + 7, none⟩ (.int .i64 j.z)) := by
  constructor
  · have hl : (flat (d.take i)).length = i * 8 := by rw [flat_length, List.length_take]; congr 1; omega
    have hd : flat (d.set i j) ++ rest = flat (d.take i) ++ (cj j ++ (flat (d.drop (i + 1)) ++ rest)) := by
      rw [flat_at (d := d.set i j) (i := i) (by simpa using hi), List.getElem_set_self, List.take_set, List.drop_set, if_pos (by omega)]
      congr 2
      rw [List.set_eq_of_length_le (by simp; omega)]
    have h0 := h.blk
    rw [flat_at hi] at h0
    rw [hd]
    obtain ⟨u0, u1, u2, u3, u4, u5, u6, u7, hu⟩ : ∃ u0 u1 u2 u3 u4 u5 u6 u7, cj d[i] = [u0, u1, u2, u3, u4, u5, u6, u7] := ⟨_, _, _, _, _, _, _, _, rfl⟩
    rw [hu] at h0
    generalize flat (d.take i) = A at *
    generalize flat (d.drop (i + 1)) ++ rest = R at *
    have s0 := Go.heap_setCell_same W g (i * 8) _ _ (.int .i64 j.g) h0
    have s1 := Go.heap_setCell_same _ g (i * 8 + 1) _ _ (.int .i64 j.n) s0
    have s2 := Go.heap_setCell_same _ g (i * 8 + 2) _ _ (.int .i64 j.k) s1
    have s3 := Go.heap_setCell_same _ g (i * 8 + 3) _ _ (.string j.u) s2
    have s4 := Go.heap_setCell_same _ g (i * 8 + 4) _ _ (.string j.f) s3
    have s5 := Go.heap_setCell_same _ g (i * 8 + 5) _ _ (.string j.t) s4
    have s6 := Go.heap_setCell_same _ g (i * 8 + 6) _ _ (.string j.c) s5
    have s7 := Go.heap_setCell_same _ g (i * 8 + 7) _ _ (.int .i64 j.z) s6
    rw [s7]
    clear s0 s1 s2 s3 s4 s5 s6 s7 h0 hd
    refine congrArg (fun x => some (Obj.cells x 29 (0, 0))) ?_
    simp only [List.setIfInBounds_toArray]
    refine congrArg List.toArray ?_
    simp only [List.cons_append, List.nil_append, cj]
    rw [set_at A _ _ _ _ hl]
    rw [show A ++ Value.int .i64 j.g :: u1 :: u2 :: u3 :: u4 :: u5 :: u6 :: u7 :: R = (A ++ [.int .i64 j.g]) ++ u1 :: u2 :: u3 :: u4 :: u5 :: u6 :: u7 :: R by simp, set_at _ _ _ _ _ (by simp [hl])]
    rw [show (A ++ [Value.int .i64 j.g]) ++ .int .i64 j.n :: u2 :: u3 :: u4 :: u5 :: u6 :: u7 :: R = (A ++ [.int .i64 j.g, .int .i64 j.n]) ++ u2 :: u3 :: u4 :: u5 :: u6 :: u7 :: R by simp, set_at _ _ _ _ _ (by simp [hl])]
    rw [show (A ++ [Value.int .i64 j.g, .int .i64 j.n]) ++ .int .i64 j.k :: u3 :: u4 :: u5 :: u6 :: u7 :: R = (A ++ [.int .i64 j.g, .int .i64 j.n, .int .i64 j.k]) ++ u3 :: u4 :: u5 :: u6 :: u7 :: R by simp, set_at _ _ _ _ _ (by simp [hl])]
    rw [show (A ++ [Value.int .i64 j.g, .int .i64 j.n, .int .i64 j.k]) ++ .string j.u :: u4 :: u5 :: u6 :: u7 :: R = (A ++ [.int .i64 j.g, .int .i64 j.n, .int .i64 j.k, .string j.u]) ++ u4 :: u5 :: u6 :: u7 :: R by simp, set_at _ _ _ _ _ (by simp [hl])]
    rw [show (A ++ [Value.int .i64 j.g, .int .i64 j.n, .int .i64 j.k, .string j.u]) ++ .string j.f :: u5 :: u6 :: u7 :: R = (A ++ [.int .i64 j.g, .int .i64 j.n, .int .i64 j.k, .string j.u, .string j.f]) ++ u5 :: u6 :: u7 :: R by simp, set_at _ _ _ _ _ (by simp [hl])]
    rw [show (A ++ [Value.int .i64 j.g, .int .i64 j.n, .int .i64 j.k, .string j.u, .string j.f]) ++ .string j.t :: u6 :: u7 :: R = (A ++ [.int .i64 j.g, .int .i64 j.n, .int .i64 j.k, .string j.u, .string j.f, .string j.t]) ++ u6 :: u7 :: R by simp, set_at _ _ _ _ _ (by simp [hl])]
    rw [show (A ++ [Value.int .i64 j.g, .int .i64 j.n, .int .i64 j.k, .string j.u, .string j.f, .string j.t]) ++ .string j.c :: u7 :: R = (A ++ [.int .i64 j.g, .int .i64 j.n, .int .i64 j.k, .string j.u, .string j.f, .string j.t, .string j.c]) ++ u7 :: R by simp, set_at _ _ _ _ _ (by simp [hl])]
    simp
  · exact (((((((h.bel.setCell hB _).setCell hB _).setCell hB _).setCell hB _).setCell hB _).setCell hB _).setCell hB _).setCell hB _
end Go.Proofs.YtgcbaflaidehnaaDoor

namespace Go.Proofs.YtgcbaflaidehnaaDoor
open Go.RowKit

namespace Job
def lt (x y : Jb) : Bool := Nam.less x.g x.n y.g y.n
def cf (x y : Jb) : Int := if lt x y = true then -1 else if lt y x = true then 1 else 0
theorem cf_neg (x y : Jb) : decide (cf x y < 0) = lt x y := by
  unfold cf
  cases h : lt x y
  · rw [if_neg (by simp)]
    split <;> rfl
  · rw [if_pos rfl]; rfl
def swp (d : List Jb) (i j : Nat) : List Jb := (d.set i d[j]!).set j d[i]!
theorem swp_length (d : List Jb) (i j : Nat) : (swp d i j).length = d.length := by simp [swp]
def swapR (d : List Jb) (a b : Nat) : Nat → List Jb
  | 0 => d
  | n + 1 => swp (swapR d a b n) (a + n) (b + n)
theorem swapR_length (d : List Jb) (a b : Nat) : ∀ n, (swapR d a b n).length = d.length
  | 0 => rfl
  | n + 1 => by rw [swapR, swp_length, swapR_length d a b n]
theorem at_bang {d : List Jb} {i : Nat} (h : i < d.length) : d[i]! = d[i] := by simp [h]
end Job

set_option maxHeartbeats 1000000 in
theorem byId_any (x y : Job.Jb) (w : World) : Calls Tryd.prog 13 #[jv x, jv y] w fun e w' => e = .returned (.int .i64 (Job.cf x y)) ∧ Below w.heap.size w w' := by
  obtain ⟨g, n, k, u, f, t, c, z⟩ := x
  obtain ⟨g', n', k', u', f', t', c', z'⟩ := y
  have bw := below_alloc2 w (.cells #[.int .i64 g, .int .i64 n, .int .i64 k, .string u, .string f, .string t, .string c, .int .i64 z] 29) (.cells #[.int .i64 g', .int .i64 n', .int .i64 k', .string u', .string f', .string t', .string c', .int .i64 z'] 29)
  have hk1 : Keeps w.heap.size g n k u f t c z ((w.alloc (.cells #[.int .i64 g, .int .i64 n, .int .i64 k, .string u, .string f, .string t, .string c, .int .i64 z] 29)).alloc (.cells #[.int .i64 g', .int .i64 n', .int .i64 k', .string u', .string f', .string t', .string c', .int .i64 z'] 29)) := (keeps_new g n k u f t c z w _).below (below_alloc1 _ _) (by simp)
  have hk2 : Keeps (w.heap.size + 1) g' n' k' u' f' t' c' z' ((w.alloc (.cells #[.int .i64 g, .int .i64 n, .int .i64 k, .string u, .string f, .string t, .string c, .int .i64 z] 29)).alloc (.cells #[.int .i64 g', .int .i64 n', .int .i64 k', .string u', .string f', .string t', .string c', .int .i64 z'] 29)) := by
    have := keeps_new g' n' k' u' f' t' c' z' (w.alloc (.cells #[.int .i64 g, .int .i64 n, .int .i64 k, .string u, .string f, .string t, .string c, .int .i64 z] 29)) 29
    rw [show (w.alloc (.cells #[.int .i64 g, .int .i64 n, .int .i64 k, .string u, .string f, .string t, .string c, .int .i64 z] 29)).heap.size = w.heap.size + 1 by simp] at this
    exact this
  have hr : Hid (Job.cf ⟨g, n, k, u, f, t, c, z⟩ ⟨g', n', k', u', f', t', c', z'⟩ = if Nam.less g n g' n' = true then -1 else if Nam.less g' n' g n = true then 1 else 0) := rfl
  have H1 : Hid (∀ W, Calls Tryd.prog 22 #[.agg #[.int .i64 g, .int .i64 n], .agg #[.int .i64 g', .int .i64 n']] W fun e w' => e = .returned (.bool (Nam.less g n g' n')) ∧ Below W.heap.size W w') := fun W => less_any g n g' n' W
  have H2 : Hid (∀ W, Calls Tryd.prog 22 #[.agg #[.int .i64 g', .int .i64 n'], .agg #[.int .i64 g, .int .i64 n]] W fun e w' => e = .returned (.bool (Nam.less g' n' g n)) ∧ Below W.heap.size W w') := fun W => less_any g' n' g n W
  have hkk : Hid (Keeps w.heap.size g n k u f t c z ((w.alloc (.cells #[.int .i64 g, .int .i64 n, .int .i64 k, .string u, .string f, .string t, .string c, .int .i64 z] 29)).alloc (.cells #[.int .i64 g', .int .i64 n', .int .i64 k', .string u', .string f', .string t', .string c', .int .i64 z'] 29)) ∧ Keeps (w.heap.size + 1) g' n' k' u' f' t' c' z' ((w.alloc (.cells #[.int .i64 g, .int .i64 n, .int .i64 k, .string u, .string f, .string t, .string c, .int .i64 z] 29)).alloc (.cells #[.int .i64 g', .int .i64 n', .int .i64 k', .string u', .string f', .string t', .string c', .int .i64 z'] 29))) := ⟨hk1, hk2⟩
  obtain ⟨j0, j1, j2, j3, j4, j5, j6, j7⟩ := hk1
  obtain ⟨l0, l1, l2, l3, l4, l5, l6, l7⟩ := hk2
  unfold jv
  generalize Nam.less g n g' n' = b1 at *
  generalize Nam.less g' n' g n = b2 at *
  go_enter Tryd.func13, Tryd.ntmps13
  go_wp2_with (go_at_call 22; with_reducible refine (H1.out _).mono ?_)
  rintro e w1 ⟨rfl, c1⟩
  obtain ⟨i0, i1, i2, i3, i4, i5, i6, i7⟩ := hkk.out.1.below c1 (by simp; omega)
  obtain ⟨m0, m1, m2, m3, m4, m5, m6, m7⟩ := hkk.out.2.below c1 (by simp)
  cases b1
  · go_wp2_with (go_at_call 22; with_reducible refine (H2.out _).mono ?_)
    rintro e w2 ⟨rfl, c2⟩
    have bE := bw.trans ((c1.trans (c2.mono c1.size)).mono bw.size)
    cases b2
    · go_wp2
      go_ret
      exact ⟨ret_int (by rw [hr.out]; rfl), bE⟩
    · go_wp2
      go_ret
      exact ⟨ret_int (by rw [hr.out]; rfl), bE⟩
  · go_wp2
    go_ret
    exact ⟨ret_int (by rw [hr.out]; rfl), bw.trans (c1.mono bw.size)⟩

theorem SW.swap {g : Nat} {rest : List Value} {w0 W : World} {d : List Job.Jb} (h : SW g rest w0 d W) (hB : w0.heap.size ≤ g) {p q : Nat} (hp : p < d.length) (hq : q < d.length) {xp xq : Job.Jb} (ep : d[p]! = xp) (eq : d[q]! = xq) :
    SW g rest w0 (Job.swp d p q) ((((((((((((((((W.setCell ⟨g, p * 8, none⟩ (.int .i64 xq.g)).setCell ⟨g, p * 8 + 1, none⟩ (.int .i64 xq.n)).setCell ⟨g, p * 8 + 2, none⟩ (.int .i64 xq.k)).setCell ⟨g, p * 8 + 3, none⟩ (.string xq.u)).setCell ⟨g, p * 8 + 4, none⟩ (.string xq.f)).setCell ⟨g, p * 8 + 5, none⟩ (.string xq.t)).setCell ⟨g, p * 8 + 6, none⟩ (.string xq.c)).setCell ⟨g, p * 8 + 7, none⟩ (.int .i64 xq.z)).setCell ⟨g, q * 8, none⟩ (.int .i64 xp.g)).setCell ⟨g, q * 8 + 1, none⟩ (.int .i64 xp.n)).setCell ⟨g, q * 8 + 2, none⟩ (.int .i64 xp.k)).setCell ⟨g, q * 8 + 3, none⟩ (.string xp.u)).setCell ⟨g, q * 8 + 4, none⟩ (.string xp.f)).setCell ⟨g, q * 8 + 5, none⟩ (.string xp.t)).setCell ⟨g, q * 8 + 6, none⟩ (.string xp.c)).setCell ⟨g, q * 8 + 7, none⟩ (.int .i64 xp.z)).drew := by
  unfold Job.swp
  rw [ep, eq]
  exact ((h.put hB hp xq).put hB (i := q) (by simpa using hq) xp).drew

set_option maxHeartbeats 4000000 in
set_option maxRecDepth 100000 in
theorem swapRange_any (fv : Value) (g : Nat) (rest : List Value) (w0 : World) (hB : w0.heap.size ≤ g) (d : List Job.Jb) (cap a b n : Nat) (hn : d.length ≤ 1000) (ha : a + n ≤ b) (hb : b + n ≤ d.length) (w : World) (hw : SW g rest w0 d w) :
    Calls Tryd.prog 59 #[.slice (some ⟨g, 0, none⟩) d.length cap, .int .i64 a, .int .i64 b, .int .i64 n, fv] w fun e w' => e = .returned (.tuple #[]) ∧ SW g rest w0 (Job.swapR d a b n) w' := by
  have HW : Hid (SW g rest w0 d w) := hw
  clear hw
  go_enter Tryd.func59, Tryd.ntmps59
  go_wp2
  go_loopw [10] (fun i wr => ∃ k : Nat, k ≤ n ∧ i = .int .i64 k ∧ Hid (SW g rest w0 (Job.swapR d a b k) wr)) (fun i _ => n - (intOf i).toNat)
  case atStart => exact ⟨0, Nat.zero_le _, rfl, HW⟩
  case round =>
    obtain ⟨k, hk, rfl, hS⟩ := hrel
    by_cases hlt : k < n
    · have hl := Job.swapR_length d a b k
      have hnx : Hid (Job.swapR d a b (k + 1) = Job.swp (Job.swapR d a b k) (a + k) (b + k)) := rfl
      generalize Job.swapR d a b k = dk at *
      obtain ⟨p, hp⟩ : ∃ p : Nat, p = a + k := ⟨_, rfl⟩
      obtain ⟨q, hq⟩ : ∃ q : Nat, q = b + k := ⟨_, rfl⟩
      have hpq : p < q := by omega
      have hpl : p < dk.length := by omega
      have hql : q < dk.length := by omega
      have jp := hS.out.job hpl
      have jq := hS.out.job hql
      have hP := Job.at_bang hpl
      have hQ := Job.at_bang hql
      rw [← hP] at jp
      rw [← hQ] at jq
      have e1 : IntKind.i64.wrap ((a : Int) + (k : Int)) = (p : Int) := by rw [IntKind.wrap_i64]; omega
      have e2 : IntKind.i64.wrap ((b : Int) + (k : Int)) = (q : Int) := by rw [IntKind.wrap_i64]; omega
      have p0 : (0 : Int) ≤ (p : Int) := by omega
      have q0 : (0 : Int) ≤ (q : Int) := by omega
      have p1 : (p : Int) < (d.length : Int) := by omega
      have q1 : (q : Int) < (d.length : Int) := by omega
      have p2 : p < d.length := by omega
      have q2 : q < d.length := by omega
      have fz := hS.out.thaw
      have r1 : ∀ j, j < 8 → ¬ (p * 8 = q * 8 + j) := fun j hj => by omega
      have r2 : ∀ j, j < 8 → ¬ (q * 8 = p * 8 + j) := fun j hj => by omega
      have r3 : ∀ j, j < 8 → ¬ (p * 8 + j = q * 8) := fun j hj => by omega
      have r4 : ∀ j, j < 8 → ¬ (q * 8 + j = p * 8) := fun j hj => by omega
      have r5 : ¬ (p * 8 = q * 8) := by omega
      have r6 : ¬ (q * 8 = p * 8) := by omega
      have r7 : ¬ (p = q) := by omega
      have r8 : ¬ (q = p) := by omega
      have zg := hS.out.lt
      obtain ⟨xp, hxp⟩ : ∃ x, dk[p]! = x := ⟨_, rfl⟩
      obtain ⟨xq, hxq⟩ : ∃ x, dk[q]! = x := ⟨_, rfl⟩
      rw [hxp] at jp
      rw [hxq] at jq
      clear hP hQ
      obtain ⟨pg, pn, pk, pu, pf, pt, pc, pz⟩ := xp
      obtain ⟨qg, qn, qk, qu, qf, qt, qc, qz⟩ := xq
      obtain ⟨a0, a1, a2, a3, a4, a5, a6, a7⟩ := jp
      obtain ⟨b0, b1, b2, b3, b4, b5, b6, b7⟩ := jq
      dsimp only at a0 a1 a2 a3 a4 a5 a6 a7 b0 b1 b2 b3 b4 b5 b6 b7
      have hsw := hS.out.swap hB hpl hql hxp hxq
      dsimp only at hsw
      rw [hp, hq, ← hnx.out, ← hp, ← hq] at hsw
      replace hsw : Hid _ := hsw
      clear hpq hS hp hq hxp hxq
      go_wp2
      go_big_region
      generalize World.drew _ = WE at *
      go_wp2
      go_roundw
      case rel => exact ⟨k + 1, by omega, by go_num, hsw⟩
      case measure => simp [intOf]; omega
    · obtain rfl : k = n := by omega
      go_wp2
      go_end0
      exact ⟨rfl, hS.out⟩
end Go.Proofs.YtgcbaflaidehnaaDoor

namespace Go.Proofs.YtgcbaflaidehnaaDoor
namespace Job

theorem lt_iff (x y : Jb) : lt x y = true ↔ x.g < y.g ∨ (x.g = y.g ∧ x.n < y.n) := by
  unfold lt Nam.less
  by_cases h : x.g = y.g
  · rw [if_pos h]; simp [h]
  · rw [if_neg h]; simp [h]
/-- x may stand ahead of y -/
def Le (x y : Jb) : Prop := x.g < y.g ∨ (x.g = y.g ∧ x.n ≤ y.n)
theorem le_iff (x y : Jb) : lt y x = false ↔ Le x y := by
  have h := lt_iff y x
  unfold Le
  constructor
  · intro e
    have : ¬ (y.g < x.g ∨ (y.g = x.g ∧ y.n < x.n)) := fun c => by rw [h.2 c] at e; cases e
    omega
  · intro c
    cases e : lt y x
    · rfl
    · have := h.1 e; omega
theorem Le.trans {x y z : Jb} (h : Le x y) (h' : Le y z) : Le x z := by unfold Le at *; omega
theorem lt_le {x y : Jb} (h : lt x y = true) : Le x y := by have := (lt_iff x y).1 h; unfold Le; omega
theorem lt_le_lt {x y z : Jb} (h : lt x y = true) (h' : Le y z) : lt x z = true := by
  have := (lt_iff x y).1 h; unfold Le at h'; rw [lt_iff]; omega
theorem le_lt_lt {x y z : Jb} (h : Le x y) (h' : lt y z = true) : lt x z = true := by
  have := (lt_iff y z).1 h'; unfold Le at h; rw [lt_iff]; omega
/-- those of one id -/
def fk (a b : Int) (l : List Jb) : List Jb := l.filter fun x => decide (x.g = a) && decide (x.n = b)
theorem fk_append (a b : Int) (l m : List Jb) : fk a b (l ++ m) = fk a b l ++ fk a b m := by simp [fk]
theorem fk_cons (a b : Int) (x : Jb) (l : List Jb) : fk a b (x :: l) = fk a b [x] ++ fk a b l := by rw [← fk_append]; rfl
theorem fk_mem {a b : Int} {l : List Jb} {x : Jb} (h : x ∈ fk a b l) : x ∈ l ∧ x.g = a ∧ x.n = b := by
  unfold fk at h; rw [List.mem_filter] at h; simpa using h
theorem fk_of {a b : Int} {l : List Jb} {x : Jb} (h : x ∈ l) (hg : x.g = a) (hn : x.n = b) : x ∈ fk a b l := by
  unfold fk; rw [List.mem_filter]; exact ⟨h, by simp [hg, hn]⟩
/-- two rows of which all of the one stand truly ahead of all of the other change places -/
theorem fk_swap {A B : List Jb} (h : ∀ x ∈ A, ∀ y ∈ B, lt x y = true) (a b : Int) : fk a b (A ++ B) = fk a b (B ++ A) := by
  rw [fk_append, fk_append]
  rcases hA : fk a b A with _ | ⟨x, r⟩
  · simp
  · rcases hB : fk a b B with _ | ⟨y, r'⟩
    · simp
    · exfalso
      have mx := fk_mem (a := a) (b := b) (l := A) (x := x) (by rw [hA]; simp)
      have my := fk_mem (a := a) (b := b) (l := B) (x := y) (by rw [hB]; simp)
      have := (lt_iff x y).1 (h x mx.1 y my.1)
      omega
def Srt (l : List Jb) : Prop := l.Pairwise Le
/-- s is l in its order, those of one id as they stood -/
structure St (l s : List Jb) : Prop where
  srt : Srt s
  same : ∀ a b, fk a b s = fk a b l
theorem srt_uniq : ∀ (s s' : List Jb), Srt s → Srt s' → (∀ a b, fk a b s = fk a b s') → s = s'
  | [], [], _, _, _ => rfl
  | [], y :: r, _, _, h => by
    have := h y.g y.n
    have m := fk_of (a := y.g) (b := y.n) (l := y :: r) (x := y) (by simp) rfl rfl
    rw [← this] at m; cases m
  | x :: r, [], _, _, h => by
    have := h x.g x.n
    have m := fk_of (a := x.g) (b := x.n) (l := x :: r) (x := x) (by simp) rfl rfl
    rw [this] at m; cases m
  | x :: r, y :: r', hs, hs', h => by
    have hx := List.pairwise_cons.1 hs
    have hy := List.pairwise_cons.1 hs'
    have mx : x ∈ y :: r' := (fk_mem (a := x.g) (b := x.n) (by rw [← h]; exact fk_of (by simp) rfl rfl)).1
    have my : y ∈ x :: r := (fk_mem (a := y.g) (b := y.n) (by rw [h]; exact fk_of (by simp) rfl rfl)).1
    have hxy : Le x y := by
      rcases List.mem_cons.1 my with e | m
      · rw [e]; unfold Le; omega
      · exact hx.1 y m
    have hyx : Le y x := by
      rcases List.mem_cons.1 mx with e | m
      · rw [e]; unfold Le; omega
      · exact hy.1 x m
    have hk : x.g = y.g ∧ x.n = y.n := by unfold Le at hxy hyx; omega
    have e := h x.g x.n
    have fx : fk x.g x.n (x :: r) = x :: fk x.g x.n r := by simp [fk]
    have fy : fk x.g x.n (y :: r') = y :: fk x.g x.n r' := by simp [fk, hk.1, hk.2]
    rw [fx, fy] at e
    obtain ⟨rfl, e2⟩ := List.cons.inj e
    refine congrArg (x :: ·) (srt_uniq r r' hx.2 hy.2 fun a b => ?_)
    have e3 := h a b
    rw [fk_cons, fk_cons a b x r'] at e3
    exact List.append_cancel_left e3
theorem St.uniq {l s s' : List Jb} (h : St l s) (h' : St l s') : s = s' := srt_uniq s s' h.srt h'.srt fun a b => by rw [h.same, h'.same]
theorem St.refl {l : List Jb} (h : Srt l) : St l l := ⟨h, fun _ _ => rfl⟩
theorem count_fk (l : List Jb) (x : Jb) : (fk x.g x.n l).count x = l.count x := by
  unfold fk; rw [List.count_filter]; simp
theorem St.count {l s : List Jb} (h : St l s) (x : Jb) : s.count x = l.count x := by rw [← count_fk s x, h.same, count_fk]
theorem St.perm {l s : List Jb} (h : St l s) : s.Perm l := List.perm_iff_count.2 h.count
theorem St.len {l s : List Jb} (h : St l s) : s.length = l.length := h.perm.length_eq
theorem St.mem {l s : List Jb} (h : St l s) {x : Jb} : x ∈ s ↔ x ∈ l := h.perm.mem_iff
/-- the two halves of a merge -/
theorem St.join {A1 A2 B1 B2 S1 S2 : List Jb} (hA : Srt (A1 ++ A2)) (hB : Srt (B1 ++ B2)) (h1 : St (A1 ++ B1) S1) (h2 : St (A2 ++ B2) S2)
    (c1 : ∀ x ∈ A1, ∀ y ∈ B2, Le x y) (c2 : ∀ x ∈ B1, ∀ y ∈ A2, lt x y = true) : St (A1 ++ A2 ++ (B1 ++ B2)) (S1 ++ S2) := by
  have hA' := List.pairwise_append.1 hA
  have hB' := List.pairwise_append.1 hB
  refine ⟨List.pairwise_append.2 ⟨h1.srt, h2.srt, fun x hx y hy => ?_⟩, fun a b => ?_⟩
  · rcases List.mem_append.1 (h1.mem.1 hx) with hx | hx
    · rcases List.mem_append.1 (h2.mem.1 hy) with hy | hy
      · exact hA'.2.2 x hx y hy
      · exact c1 x hx y hy
    · rcases List.mem_append.1 (h2.mem.1 hy) with hy | hy
      · exact lt_le (c2 x hx y hy)
      · exact hB'.2.2 x hx y hy
  · rw [fk_append, h1.same, h2.same]
    have := fk_swap c2 a b
    simp only [fk_append] at this ⊢
    rw [List.append_assoc, ← List.append_assoc (fk a b B1), this]
    simp [List.append_assoc]
/-- one more job behind a row in its order -/
theorem St.ins {X U1 U2 : List Jb} {x : Jb} (h : St X (U1 ++ U2)) (c1 : ∀ u ∈ U1, Le u x) (c2 : ∀ u ∈ U2, lt x u = true) : St (X ++ [x]) (U1 ++ [x] ++ U2) := by
  have hU := List.pairwise_append.1 h.srt
  refine ⟨?_, fun a b => ?_⟩
  · rw [Srt, List.append_assoc, List.pairwise_append]
    refine ⟨hU.1, ?_, fun u hu v hv => ?_⟩
    · rw [List.singleton_append, List.pairwise_cons]
      exact ⟨fun v hv => lt_le (c2 v hv), hU.2.1⟩
    · rcases List.mem_append.1 hv with hv | hv
      · rw [List.mem_singleton.1 hv]; exact c1 u hu
      · exact hU.2.2 u hu v hv
  · have := fk_swap (A := [x]) (B := U2) (fun y hy u hu => by rw [List.mem_singleton.1 hy]; exact c2 u hu) a b
    have e := h.same a b
    simp only [fk_append] at this e ⊢
    rw [List.append_assoc, this, ← List.append_assoc, e]
end Job
end Go.Proofs.YtgcbaflaidehnaaDoor
