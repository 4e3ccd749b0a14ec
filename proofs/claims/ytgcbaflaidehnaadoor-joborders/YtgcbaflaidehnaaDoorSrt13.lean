/-
  Layer 5: Order of what is not nil; 'long' of nothing.
-/
import Derived.Test.YtgcbaflaidehnaaDoorSrt12
namespace Go.Proofs.YtgcbaflaidehnaaDoor
open Go.RowKit

/-- a row of one's own that is not nil -/
theorem own_some {w w' : World} {v : Value} {l : List Job.Jb} (h : w'.ownsRow w.heap.size 29 8 v l.length (flat l)) (hb : Below w.heap.size w w') (hv : ¬ v = .slice none 0 0) :
    ∃ g cap rest, v = .slice (some ⟨g, 0, none⟩) l.length cap ∧ w.heap.size ≤ g ∧ SW g rest w l w' := by
  rcases h.2 with ⟨rfl, _⟩ | ⟨g, cap, cur, rfl, hg, hc, hn, hm, hs, ht⟩
  · exact absurd rfl hv
  · exact ⟨g, cap, cur.toList.drop (l.length * 8), rfl, hg, ⟨by rw [hc, ← ht, List.take_append_drop], hb⟩⟩
/-- behind Clone -/
def SwPost (w : World) (l : List Job.Jb) (e : Ending) (w' : World) : Prop := ∃ g cap rest, e = .returned (.slice (some ⟨g, 0, none⟩) l.length cap) ∧ w.heap.size ≤ g ∧ SW g rest w l w'
theorem infoJob' : ∃ i0, Tryd.prog.info? 29 = some i0 ∧ i0.zero = some (.agg zcells) ∧ i0.size = 8 ∧ i0.bytes = 96 := by
  have := infoJob
  cases h : Tryd.prog.info? 29 with
  | none => rw [h] at this; cases this
  | some i => rw [h] at this; simp only [Option.map_some, Option.some.injEq, Prod.mk.injEq] at this; exact ⟨i, rfl, this.1, this.2.1, this.2.2⟩

set_option maxHeartbeats 2000000 in
set_option maxRecDepth 100000 in
theorem clone_some (g0 : Nat) (rest0 : List Value) (c : Nat) (l : List Job.Jb) (v0 w : World) (hn : l.length ≤ 1000) (hS : SW g0 rest0 v0 l w) :
    Calls Tryd.prog 11 #[.slice (some ⟨g0, 0, none⟩) l.length c] w fun e w' => SwPost w l e w' := by
  have q22 : ∀ (w : World) (a : Option Addr) (n c n' c' : Nat), (binOp .eql 22 (.slice a n c) (.slice none n' c')).run Tryd.prog w = .ok (.bool a.isNone) w := fun w a n c n' c' => Lib.run_eql_slice_nil w _ _ a n c n' c' Tryd.underlying22
  obtain ⟨i0, hi, hz0, hz1, hz2⟩ := infoJob'
  have hb0 := below_alloc1 w (.cells #[] 29)
  have hc : ∀ (i : Nat) (h : i < l.length), JAt w g0 (0 + i * 8) l[i] := fun i h => by rw [Nat.zero_add]; exact hS.job h
  have hcells : Hid (∀ (t : Nat) (u : Value), (flat l)[t]? = some u → (w.alloc (.cells #[] 29)).cell? ⟨g0, 0 + t, none⟩ = some u) := fun t u hu => by
    rw [hb0.cell (p := ⟨g0, 0 + t, none⟩) hS.lt]; exact row_cells hc t u hu
  have hlen := flat_length l
  have h1 := hide (flat_one l)
  obtain ⟨news, hnews⟩ : ∃ x, x = flat l := ⟨_, rfl⟩
  rw [← hnews] at hcells hlen h1
  replace hnews := hide hnews
  clear hc hS
  go_enter Tryd.func11, Tryd.ntmps11
  go_wp2_with (at_builtin; refine wpList_append_own _ rfl _ _ 22 rfl w.heap.size 29 i0 (.agg zcells) 8 96 Tryd.underlying22 hi hz0 hz1 hz2 rfl (by decide) _ _ _ rfl (World.ownsRow_made w #[] 0 (Nat.le_refl _) (Nat.zero_le _) (by simp)) ⟨g0, 0, none⟩ l.length c news rfl ?c0 ?c1 ?c2 ?c3 ?c4 ?c5 ?_)
  case c0 => exact hlen
  case c1 => intro j u hu; have := hcells.out j u hu; cases j <;> simpa [Addr.add] using this
  case c2 => exact h1.out
  case c3 => unfold maxLen; omega
  case c4 => omega
  case c5 => simp
  intro v' w' hown hgrow hne
  go_wp2
  go_ret
  rw [hnews.out] at hown
  obtain ⟨g, cap, rest, rfl, h2, h3⟩ := own_some hown (hb0.grown hgrow (by simp) (fun k hk => by simp [Value.ownBlock] at hk; omega)) hne
  exact ⟨g, cap, rest, rfl, h2, h3⟩

/-- behind Order -/
def OrdPost2 (w : World) (l : List Job.Jb) (e : Ending) (w' : World) : Prop := ∃ g cap rest S, e = .returned (.slice (some ⟨g, 0, none⟩) l.length cap) ∧ Job.St l S ∧ w.heap.size ≤ g ∧ SW g rest w S w'
set_option maxHeartbeats 1000000 in
theorem order_some (g0 : Nat) (rest0 : List Value) (c : Nat) (l : List Job.Jb) (v0 w : World) (hn : l.length ≤ 60) (hS : SW g0 rest0 v0 l w) :
    Calls Tryd.prog 6 #[.slice (some ⟨g0, 0, none⟩) l.length c] w fun e w' => OrdPost2 w l e w' := by
  have HC := hide (clone_some g0 rest0 c l v0 w (by omega) hS)
  clear hS
  go_enter Tryd.func6, Tryd.ntmps6
  go_wp2_with (go_at_call 11; refine HC.out.mono ?_)
  intro e w1 h1
  obtain ⟨g, cap, rest, rfl, hg, hsw⟩ := h1
  have HR := hide (sortOk g rest w cap l w1 hg hn hsw)
  go_wp2_with (go_at_call 12; refine HR.out.mono ?_; rintro e w2 ⟨rfl, S, h2, h3⟩; replace h2 := hide h2; replace h3 := hide h3)
  go_ret
  exact ⟨g, cap, rest, S, rfl, h2.out, hg, h3.out⟩

set_option maxHeartbeats 1000000 in
theorem long_none (a : Option Addr) (c : Nat) (w : World) :
    Calls Tryd.prog 4 #[.slice a 0 c] w fun e w' => LongPost [] w e w' := by
  go_enter Tryd.func4, Tryd.ntmps4
  go_wp2
  go_loop [7] (fun i => i = .int .i64 0) (fun _ => 0)
  case atStart => rfl
  case round =>
    obtain rfl := hrel
    go_wp2
    go_ret
    exact ⟨false, rfl, (fun _ => Nat.zero_le _), Below.refl _ _⟩

end Go.Proofs.YtgcbaflaidehnaaDoor
