/-
  Layer 5, Order: nothing to sort; Order, over what the sort says.
-/
import Derived.Test.YtgcbaflaidehnaaDoorSrt10
namespace Go.Proofs.YtgcbaflaidehnaaDoor
open Go.RowKit

set_option maxHeartbeats 1000000 in
theorem ins_empty (a : Option Addr) (c : Nat) (fv : Value) (w : World) :
    Calls Tryd.prog 35 #[.slice a 0 c, .int .i64 0, .int .i64 0, fv] w fun e w' => e = .returned (.tuple #[]) ∧ w' = w := by
  go_enter Tryd.func35, Tryd.ntmps35
  go_wp2
  go_loopw [8] (fun i wr => i = .int .i64 1 ∧ wr = w) (fun _ _ => 0)
  case atStart => exact ⟨rfl, rfl⟩
  case round =>
    obtain ⟨rfl, rfl⟩ := hrel
    go_wp2
    go_end0
    exact ⟨rfl, rfl⟩

set_option maxHeartbeats 1000000 in
theorem stable_empty (a : Option Addr) (c : Nat) (fv : Value) (w : World) :
    Calls Tryd.prog 21 #[.slice a 0 c, .int .i64 0, fv] w fun e w' => e = .returned (.tuple #[]) ∧ w' = w := by
  have HI := hide (ins_empty a c fv w)
  go_enter Tryd.func21, Tryd.ntmps21
  go_wp2
  go_loopw [7, 8] (fun va vb wr => va = .int .i64 0 ∧ vb = .int .i64 20 ∧ wr = w) (fun _ _ _ => 0)
  case atStart => exact ⟨rfl, rfl, rfl⟩
  case round =>
    obtain ⟨rfl, rfl, rfl⟩ := hrel
    go_wp2_with (go_at_call 35; refine HI.out.mono ?_; rintro e w2 ⟨rfl, rfl⟩)
    go_loopw [6] (fun vb wr' => vb = .int .i64 20 ∧ wr' = w2) (fun _ _ => 0)
    case atStart => exact ⟨rfl, rfl⟩
    case round =>
      obtain ⟨rfl, rfl⟩ := hrel
      go_wp2
      go_end0
      exact ⟨rfl, rfl⟩

set_option maxHeartbeats 1000000 in
theorem sort_empty (a : Option Addr) (c : Nat) (fv : Value) (w : World) :
    Calls Tryd.prog 12 #[.slice a 0 c, fv] w fun e w' => e = .returned (.tuple #[]) ∧ w' = w := by
  have HI := hide (stable_empty a c fv w)
  go_enter Tryd.func12, Tryd.ntmps12
  go_wp2_with (go_at_call 21; refine HI.out.mono ?_; rintro e w2 ⟨rfl, rfl⟩)
  go_end0
  exact ⟨rfl, rfl⟩

/-- what Order says -/
def OrdPost (w : World) (l : List Job.Jb) (e : Ending) (w' : World) : Prop := ∃ a c S, e = .returned (.slice a l.length c) ∧ Job.St l S ∧ JRow w' a S ∧ Below w.heap.size w w'
/-- what SortStableFunc says -/
def SortOk : Prop := ∀ (g : Nat) (rest : List Value) (w0 : World) (cap : Nat) (d : List Job.Jb) (w : World), w0.heap.size ≤ g → d.length ≤ 60 → SW g rest w0 d w →
  Calls Tryd.prog 12 #[.slice (some ⟨g, 0, none⟩) d.length cap, .func (.func 13) #[] #[]] w fun e w' => e = .returned (.tuple #[]) ∧ ∃ S, Job.St d S ∧ SW g rest w0 S w'

set_option maxHeartbeats 1000000 in
theorem order_of (hs : SortOk) (a : Option Addr) (c : Nat) (l : List Job.Jb) (w : World) (hn : l.length ≤ 60) (hrow : JRow w a l) :
    Calls Tryd.prog 6 #[.slice a l.length c] w fun e w' => OrdPost w l e w' := by
  have HC := hide (clone_any a c l w (by omega) hrow)
  have HS := hide hs
  clear hs hrow
  go_enter Tryd.func6, Tryd.ntmps6
  go_wp2_with (go_at_call 11; refine HC.out.mono ?_)
  intro e w1 h1
  obtain ⟨v, rfl, hown, hb⟩ := h1
  rcases own_sw hown hb with ⟨a', c', rfl, rfl, hr⟩ | ⟨g, cap, rest, rfl, hg, hsw, h1⟩
  · have HE := hide (sort_empty a' c' (.func (.func 13) #[] #[]) w1)
    go_wp2_with (go_at_call 12; refine HE.out.mono ?_; rintro e w2 ⟨rfl, rfl⟩)
    go_ret
    exact ⟨a', c', [], rfl, Job.St.refl List.Pairwise.nil, hr, hb⟩
  · have HR := hide (HS.out g rest w cap l w1 hg hn hsw)
    go_wp2_with (go_at_call 12; refine HR.out.mono ?_; rintro e w2 ⟨rfl, S, h2, h3⟩; replace h2 := hide h2; replace h3 := hide h3)
    go_ret
    exact ⟨_, cap, S, rfl, h2.out, sw_row h3.out, h3.out.bel⟩
end Go.Proofs.YtgcbaflaidehnaaDoor
