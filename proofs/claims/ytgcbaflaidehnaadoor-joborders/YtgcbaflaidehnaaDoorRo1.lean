/-
  Layer 5: the document's Order: jobs in a row of its own: append, copy, store.
-/
import Derived.Test.YtgcbaflaidehnaaDoorSrt15
import Derived.Test.YtgcbaflaidehnaaDoorRowBun
import Derived.Deep.RegionLaw
import Derived.Deep.RegionHeld3
import Derived.Deep.DeepCutAuto
namespace Go.Proofs.YtgcbaflaidehnaaDoor
open Go.RowKit

def jobE : Rg.El Job.Jb := { enc := cj, m := 8, hm := fun _ => rfl, pos := by decide, one := fun x u hu => flat_one [x] u (by simpa [flat_cons, flat_nil] using hu), ty := 29 }
theorem job_at {W : World} {b o : Nat} {g n k : Int} {u f t c : ByteArray} {z : Int} (h : Rg.At W b o (jobE.enc ⟨g, n, k, u, f, t, c, z⟩)) : W.cell? ⟨b, o, none⟩ = some (.int .i64 g) ∧ W.cell? ⟨b, o + 1, none⟩ = some (.int .i64 n) ∧ W.cell? ⟨b, o + 2, none⟩ = some (.int .i64 k) ∧ W.cell? ⟨b, o + 3, none⟩ = some (.string u) ∧ W.cell? ⟨b, o + 4, none⟩ = some (.string f) ∧ W.cell? ⟨b, o + 5, none⟩ = some (.string t) ∧ W.cell? ⟨b, o + 6, none⟩ = some (.string c) ∧ W.cell? ⟨b, o + 7, none⟩ = some (.int .i64 z) := ⟨h 0 _ rfl, h 1 _ rfl, h 2 _ rfl, h 3 _ rfl, h 4 _ rfl, h 5 _ rfl, h 6 _ rfl, h 7 _ rfl⟩

/-- none, or a row of one's own -/
def JO (base : Nat) (W : World) (A : Option Addr) (cap : Nat) (S : List Job.Jb) : Prop := (A = none ∧ S = [] ∧ cap = 0) ∨ ∃ g rest, A = some ⟨g, 0, none⟩ ∧ jobE.Own base W g cap S rest
theorem JO.below {base : Nat} {W W' : World} {A : Option Addr} {cap : Nat} {S : List Job.Jb} (h : JO base W A cap S) (hb : Below W.heap.size W W') : JO base W' A cap S := by
  rcases h with h | ⟨g, rest, h1, h2⟩
  · exact .inl h
  · exact .inr ⟨g, rest, h1, h2.below hb⟩
theorem JO.lt {base : Nat} {W : World} {A : Option Addr} {cap : Nat} {S : List Job.Jb} (h : JO base W A cap S) (g : Nat) (hg : A = some ⟨g, 0, none⟩) : g < W.heap.size := by
  rcases h with ⟨h, _⟩ | ⟨g', rest, h1, h2⟩
  · rw [h] at hg; cases hg
  · rw [h1] at hg; cases hg; exact h2.lt
/-- append of one job, out of block ad; block J stays -/
theorem JO.append {base : Nat} {W : World} {A : Option Addr} {cap : Nat} {S : List Job.Jb} (h : JO base W A cap S) (x : Job.Jb) (ad : Nat) (hx : Rg.At W ad 0 (jobE.enc x)) (hB : base ≤ W.heap.size) (hS : S.length ≤ 1000) (J : Nat) (hJ : J < W.heap.size) (hJA : ∀ g, A = some ⟨g, 0, none⟩ → g ≠ J) :
    ∃ g' cap' rest' W', (Builtin.append_ #[22, 22] 22 #[.slice A S.length cap, .slice (some ⟨ad, 0, none⟩) 1 1]).run Tryd.prog W = .ok (.slice (some ⟨g', 0, none⟩) (S.length + 1) cap') W' ∧ jobE.Own base W' g' cap' (S ++ [x]) rest' ∧ Below base W W' ∧ W'.heap[J]? = W.heap[J]? ∧ g' ≠ J := by
  obtain ⟨i0, hi, hz0, hz1, hz2⟩ := infoJob'
  rcases h with ⟨rfl, rfl, rfl⟩ | ⟨g, rest, rfl, h⟩
  · obtain ⟨g', cap', rest', W', h1, h2, h3, h4⟩ := jobE.append0 (P := Tryd.prog) W base x 22 22 i0 _ 96 Tryd.underlying22 hi hz0 hz1 hz2 rfl ⟨ad, 0, none⟩ 1 hx.add hB (by omega)
    exact ⟨g', cap', rest', W', h1, h2, h3.mono hB, h3.block J hJ, by omega⟩
  · obtain ⟨g', cap', rest', W', h1, h2, _, h4, h5, h6⟩ := h.append (P := Tryd.prog) x 22 22 i0 _ 96 Tryd.underlying22 hi hz0 hz1 hz2 rfl ⟨ad, 0, none⟩ 1 hx.add hB (by omega) (by unfold maxLen; omega)
    have := hJA g rfl
    exact ⟨g', cap', rest', W', h1, h2, h4, h5 J hJ (Ne.symm this), by omega⟩

set_option maxRecDepth 100000 in
theorem ins_copy {base g cap : Nat} {W : World} {l : List Job.Jb} {x : Job.Jb} {rest : List Value} (h : jobE.Own base W g cap (l ++ [x]) rest) (k : Nat) (hk : k ≤ l.length) (ty : TypeId) (dc sc : Nat)
    (o : Nat) (ho : o = (k + 1) * 8 ∨ (l.length = k ∧ o = 0)) :
    ∃ W', (Builtin.copy_ #[22, 22] ty #[.slice (some ⟨g, o, none⟩) (l.length + 1 - (k + 1)) dc, .slice (some ⟨g, k * 8, none⟩) (l.length + 1 - k) sc]).run Tryd.prog W = .ok (.int .i64 ((l.length - k : Nat) : Int)) W' ∧
      jobE.Own base W' g cap ((l ++ [x]).take (k + 1) ++ l.drop k) rest ∧ Rg.Only g W W' := by
  obtain ⟨i0, hi, hz0, hz1, hz2⟩ := infoJob'
  have hmin : Nat.min (l.length + 1 - k) (l.length + 1 - (k + 1)) = l.length - k := (Nat.min_eq_right (by omega)).trans (by omega)
  have hfl : (jobE.flat (l.drop k)).length = (l.length - k) * 8 := by rw [jobE.flat_length, List.length_drop]; rfl
  have hlx : (l ++ [x]).length = l.length + 1 := by simp
  have htot : (jobE.flat (l ++ [x]) ++ rest).length = (l.length + 1) * 8 + rest.length := by rw [List.length_append, jobE.flat_length, hlx]; rfl
  have hsrc : Rg.At W g (k * 8) (jobE.flat (l.drop k)) := by
    have hat := h.row
    rw [jobE.flat_append] at hat
    have h1 := hat.left
    rw [← List.take_append_drop k l, jobE.flat_append] at h1
    have := h1.right (jobE.flat_take l k hk)
    rw [Nat.zero_add] at this; exact this
  have hr := Rg.run_copyG (P := Tryd.prog) W 22 22 ty 29 8 g o (l.length + 1 - (k + 1)) dc ⟨g, k * 8, none⟩ (l.length + 1 - k) sc (jobE.flat (l ++ [x]) ++ rest).toArray 29 (jobE.flat (l.drop k)) Tryd.underlying22 (by rw [hi]; simp [hz1]) h.blk (by rw [hmin]; exact hfl) hsrc.add (by rw [List.size_toArray, htot, hfl]; rcases ho with rfl | ⟨h1, rfl⟩ <;> omega) (jobE.flat_cells _)
  rw [hmin] at hr
  have e1 : ((jobE.flat (l ++ [x]) ++ rest).toArray.toList.take o ++ jobE.flat (l.drop k) ++ (jobE.flat (l ++ [x]) ++ rest).toArray.toList.drop (o + (jobE.flat (l.drop k)).length)) = jobE.flat ((l ++ [x]).take (k + 1) ++ l.drop k) ++ rest := by
    show (jobE.flat (l ++ [x]) ++ rest).take o ++ jobE.flat (l.drop k) ++ (jobE.flat (l ++ [x]) ++ rest).drop (o + (jobE.flat (l.drop k)).length) = _
    rcases ho with rfl | ⟨h1, rfl⟩
    · have ht : (jobE.flat ((l ++ [x]).take (k + 1))).length = (k + 1) * 8 := jobE.flat_take (l ++ [x]) (k + 1) (by rw [hlx]; omega)
      have e2 : (jobE.flat (l ++ [x]) ++ rest).take ((k + 1) * 8) = jobE.flat ((l ++ [x]).take (k + 1)) := by
        rw [show jobE.flat (l ++ [x]) = jobE.flat ((l ++ [x]).take (k + 1)) ++ jobE.flat ((l ++ [x]).drop (k + 1)) by rw [← jobE.flat_append, List.take_append_drop], List.append_assoc, ← ht, List.take_left]
      have e3 : (jobE.flat (l ++ [x]) ++ rest).drop ((k + 1) * 8 + (jobE.flat (l.drop k)).length) = rest := by
        rw [hfl, show (k + 1) * 8 + (l.length - k) * 8 = (jobE.flat (l ++ [x])).length by rw [jobE.flat_length, hlx]; show _ = (l.length + 1) * 8; omega, List.drop_left]
      rw [e2, e3, jobE.flat_append]
    · have e4 : l.drop k = [] := List.drop_eq_nil_of_le (by omega)
      have e5 : (l ++ [x]).take (k + 1) = l ++ [x] := List.take_of_length_le (by rw [hlx]; omega)
      rw [e4, e5]
      simp [Rg.El.flat]
  rw [e1] at hr
  refine ⟨_, hr, ⟨setRow_heap W g _ _ _ _ h.blk, h.new, ?_, h.max, ?_⟩, Rg.Only.setRow W g _⟩
  · have := h.le
    rw [hlx] at this
    simp; omega
  · have := h.fit
    rw [htot] at this
    rw [List.length_append, jobE.flat_length]
    have e6 : ((l ++ [x]).take (k + 1) ++ l.drop k).length = l.length + 1 := by simp; omega
    rw [e6]
    exact this
theorem ins_setJ (l : List Job.Jb) (x : Job.Jb) (k : Nat) (hk : k ≤ l.length) : ((l ++ [x]).take (k + 1) ++ l.drop k).set k x = l.take k ++ [x] ++ l.drop k := by
  have e1 : (l ++ [x]).take (k + 1) = l.take k ++ [(l ++ [x])[k]'(by simp; omega)] := by
    rw [List.take_succ_eq_append_getElem (by simp; omega), List.take_append_of_le_length hk]
  have e2 : (l.take k).length = k := by rw [List.length_take]; omega
  rw [e1, List.append_assoc, List.set_append_right _ _ (by omega), e2, Nat.sub_self, List.append_assoc]
  rfl
/-- the store of a job -/
theorem job_put {base g cap : Nat} {W : World} {d : List Job.Jb} {rest : List Value} (h : jobE.Own base W g cap d rest) {i : Nat} (hi : i < d.length) (j : Job.Jb) :
    jobE.Own base ((((((((W.setCell ⟨g, i * 8, none⟩ (.int .i64 j.g)).setCell ⟨g, i * 8 + 1, none⟩ (.int .i64 j.n)).setCell ⟨g, i * 8 + 2, none⟩ (.int .i64 j.k)).setCell ⟨g, i * 8 + 3, none⟩ (.string j.u)).setCell ⟨g, i * 8 + 4, none⟩ (.string j.f)).setCell ⟨g, i * 8 + 5, none⟩ (.string j.t)).setCell ⟨g, i * 8 + 6, none⟩ (.string j.c)).setCell ⟨g, i * 8 + 7, none⟩ (.int .i64 j.z)) g cap (d.set i j) rest := by
  have hs : SW g rest { W with heap := #[] } d W := ⟨h.blk, ⟨rfl, rfl, rfl, Nat.zero_le _, fun k hk => by simp at hk⟩⟩
  have := (hs.put (Nat.zero_le _) hi j).blk
  exact h.re this rfl (by simpa using h.le) (by rw [List.length_append, List.length_append]; show (flat _).length + _ = (flat _).length + _; rw [flat_length, flat_length, List.length_set])
end Go.Proofs.YtgcbaflaidehnaaDoor
