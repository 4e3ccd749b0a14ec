/-
  Layer 5, Order: rows that are copied; Clone.
-/
import Derived.Test.YtgcbaflaidehnaaDoorSrt4
import Derived.Laws.AppendOwn
import Derived.Lib.SliceRun
namespace Go.Proofs.YtgcbaflaidehnaaDoor
open Go.RowKit

theorem infoJob : (Tryd.prog.info? 29).map (fun i => (i.zero, i.size, i.bytes)) = some (some (.agg zcells), 8, 96) := by kernel_rfl
theorem flat_one (l : List Job.Jb) : ∀ u ∈ flat l, u.oneCell' = true := by
  intro u hu
  unfold flat at hu
  rw [List.mem_flatMap] at hu
  obtain ⟨j, _, hu⟩ := hu
  simp only [cj, List.mem_cons, List.not_mem_nil, or_false] at hu
  rcases hu with rfl | rfl | rfl | rfl | rfl | rfl | rfl | rfl <;> rfl
/-- a row's cells, one by one -/
theorem row_cells {W : World} {b o : Nat} {l : List Job.Jb} (h : ∀ (i : Nat) (h : i < l.length), JAt W b (o + i * 8) l[i]) (t : Nat) (u : Value) (hu : (flat l)[t]? = some u) : W.cell? ⟨b, o + t, none⟩ = some u := by
  have ht : t < l.length * 8 := by
    rw [← flat_length]
    rcases Nat.lt_or_ge t (flat l).length with h' | h'
    · exact h'
    · rw [List.getElem?_eq_none h'] at hu; cases hu
  have hi : t / 8 < l.length := by omega
  have e := flat_at hi []
  rw [List.append_nil] at e
  have hl : (flat (l.take (t / 8))).length = t / 8 * 8 := by rw [flat_length, List.length_take]; congr 1; omega
  rw [e, List.getElem?_append_right (by omega), hl, List.getElem?_append_left (by simp [cj]; omega)] at hu
  obtain ⟨c0, c1, c2, c3, c4, c5, c6, c7⟩ := h (t / 8) hi
  have ho : t = t / 8 * 8 + (t - t / 8 * 8) := by omega
  have hlt : t - t / 8 * 8 < 8 := by omega
  generalize t - t / 8 * 8 = q at *
  generalize t / 8 = i at *
  subst ho
  rw [← Nat.add_assoc]
  match q, hlt, hu with
  | 0, _, hu => rw [← hu]; exact c0
  | 1, _, hu => rw [← hu]; exact c1
  | 2, _, hu => rw [← hu]; exact c2
  | 3, _, hu => rw [← hu]; exact c3
  | 4, _, hu => rw [← hu]; exact c4
  | 5, _, hu => rw [← hu]; exact c5
  | 6, _, hu => rw [← hu]; exact c6
  | 7, _, hu => rw [← hu]; exact c7
/-- behind a copy: a row of one's own -/
def OwnPost (w : World) (l : List Job.Jb) (e : Ending) (w' : World) : Prop := ∃ v, e = .returned v ∧ w'.ownsRow w.heap.size 29 8 v l.length (flat l) ∧ Below w.heap.size w w'

set_option maxHeartbeats 2000000 in
set_option maxRecDepth 100000 in
theorem clone_any (a : Option Addr) (c : Nat) (l : List Job.Jb) (w : World) (hn : l.length ≤ 1000) (hrow : JRow w a l) :
    Calls Tryd.prog 11 #[.slice a l.length c] w fun e w' => OwnPost w l e w' := by
  have q22 : ∀ (w : World) (a : Option Addr) (n c n' c' : Nat), (binOp .eql 22 (.slice a n c) (.slice none n' c')).run Tryd.prog w = .ok (.bool a.isNone) w := fun w a n c n' c' => Lib.run_eql_slice_nil w _ _ a n c n' c' Tryd.underlying22
  rcases hrow with ⟨rfl, rfl⟩ | ⟨b, o, rfl, hb, hc⟩
  · go_enter Tryd.func11, Tryd.ntmps11
    go_wp2
    go_ret
    exact ⟨_, rfl, ⟨rfl, .inl ⟨rfl, rfl⟩⟩, Below.refl _ _⟩
  · obtain ⟨i0, hi, hz0, hz1, hz2⟩ : ∃ i0, Tryd.prog.info? 29 = some i0 ∧ i0.zero = some (.agg zcells) ∧ i0.size = 8 ∧ i0.bytes = 96 := by
      have := infoJob
      cases h : Tryd.prog.info? 29 with
      | none => rw [h] at this; cases this
      | some i => rw [h] at this; simp only [Option.map_some, Option.some.injEq, Prod.mk.injEq] at this; exact ⟨i, rfl, this.1, this.2.1, this.2.2⟩
    have hb0 := below_alloc1 w (.cells #[] 29)
    have hcells : Hid (∀ (t : Nat) (u : Value), (flat l)[t]? = some u → (w.alloc (.cells #[] 29)).cell? ⟨b, o + t, none⟩ = some u) := fun t u hu => by
      rw [hb0.cell (p := ⟨b, o + t, none⟩) hb]; exact row_cells hc t u hu
    have hlen := flat_length l
    have h1 := hide (flat_one l)
    obtain ⟨news, hnews⟩ : ∃ x, x = flat l := ⟨_, rfl⟩
    rw [← hnews] at hcells hlen h1
    replace hnews := hide hnews
    clear hc
    go_enter Tryd.func11, Tryd.ntmps11
    go_wp2_with (at_builtin; refine wpList_append_own _ rfl _ _ 22 rfl w.heap.size 29 i0 (.agg zcells) 8 96 Tryd.underlying22 hi hz0 hz1 hz2 rfl (by decide) _ _ _ rfl (World.ownsRow_made w #[] 0 (Nat.le_refl _) (Nat.zero_le _) (by simp)) ⟨b, o, none⟩ l.length c news rfl ?c0 ?c1 ?c2 ?c3 ?c4 ?c5 ?_)
    case c0 => exact hlen
    case c1 => intro j u hu; have := hcells.out j u hu; cases j <;> simpa [Addr.add] using this
    case c2 => exact h1.out
    case c3 => unfold maxLen; omega
    case c4 => omega
    case c5 => simp
    intro v' w' hown hgrow _
    go_wp2
    go_ret
    exact ⟨v', rfl, by rw [← hnews.out]; exact hown, hb0.grown hgrow (by simp) (fun k hk => by simp [Value.ownBlock] at hk; omega)⟩

/-- a row of one's own, as the sort takes it -/
theorem own_sw {w w' : World} {v : Value} {l : List Job.Jb} (h : w'.ownsRow w.heap.size 29 8 v l.length (flat l)) (hb : Below w.heap.size w w') :
    (∃ a c, v = .slice a 0 c ∧ l = [] ∧ JRow w' a []) ∨ ∃ g cap rest, v = .slice (some ⟨g, 0, none⟩) l.length cap ∧ w.heap.size ≤ g ∧ SW g rest w l w' ∧ 1 ≤ l.length := by
  rcases h.2 with ⟨rfl, h0⟩ | ⟨g, cap, cur, rfl, hg, hc, hn, hm, hs, ht⟩
  · have := List.eq_nil_of_length_eq_zero h0
    subst this
    exact .inl ⟨_, _, rfl, rfl, .inl ⟨rfl, rfl⟩⟩
  · rcases Nat.eq_zero_or_pos l.length with h0 | h0
    · have := List.eq_nil_of_length_eq_zero h0
      subst this
      refine .inl ⟨_, _, rfl, rfl, .inr ⟨g, 0, rfl, ?_, fun i hi => by simp at hi⟩⟩
      rcases Nat.lt_or_ge g w'.heap.size with h' | h'
      · exact h'
      · rw [Array.getElem?_eq_none h'] at hc; cases hc
    · refine .inr ⟨g, cap, cur.toList.drop (l.length * 8), rfl, hg, ⟨?_, hb⟩, h0⟩
      rw [hc, ← ht, List.take_append_drop]
theorem sw_row {g : Nat} {rest : List Value} {w0 W : World} {d : List Job.Jb} (h : SW g rest w0 d W) : JRow W (some ⟨g, 0, none⟩) d :=
  .inr ⟨g, 0, rfl, h.lt, fun i hi => by rw [Nat.zero_add]; exact h.job hi⟩
end Go.Proofs.YtgcbaflaidehnaaDoor
