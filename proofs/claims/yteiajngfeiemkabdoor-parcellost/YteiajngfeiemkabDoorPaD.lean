/-
  Walks of layer 13: Join.
-/
import Derived.Test.YteiajngfeiemkabDoorPa6
import Derived.Test.YteiajngfeiemkabDoorGrB
import Derived.BigQuiet
namespace Go.Proofs.YteiajngfeiemkabDoor
open Go.RowKit
theorem bkept {T e : TypeId} {B b : Nat} {bs : List Value} {W W' : World} (h : Lib.IsBuilderF T e B b bs W) (hk : ∀ k, B ≤ k → k < W.heap.size → W'.heap[k]? = W.heap[k]?) : Lib.IsBuilderF T e B b bs W' := by
  have one : ∀ p, Lib.BuilderAtF T e B b p bs W → Lib.BuilderAtF T e B b p bs W' := by
    intro p h
    have hlt := h.lt
    obtain ⟨hB, v, hb, hown, hne⟩ := h
    refine ⟨hB, v, (hk b hB hlt).trans hb, ⟨hown.1, ?_⟩, hne⟩
    rcases hown.2 with hn | ⟨g, cap, cur, fz, hv, hbg, hg, rest⟩
    · exact .inl hn
    · have hgl : g < W.heap.size := by
        rcases Nat.lt_or_ge g W.heap.size with h' | h'
        · exact h'
        · rw [Array.getElem?_eq_none h'] at hg; cases hg
      exact .inr ⟨g, cap, cur, fz, hv, hbg, (hk g hbg hgl).trans hg, rest⟩
  exact h.elim (fun x => .inl (one _ x)) (fun x => .inr (one _ x))
set_option maxHeartbeats 1000000 in
theorem bldLen_core (b n : Nat) (a : Option Addr) (c : Nat) (w : World) (c1 : w.cell? ⟨b, 1, none⟩ = some (.slice a n c)) :
    Calls Tryd.prog 13 #[.pointer (some ⟨b, 0, none⟩)] w fun e w' => e = .returned (.int .i64 (n : Int)) ∧ w' = w := by
  go_enter Tryd.func13, Tryd.ntmps13
  go_wp2
  go_ret
  exact ⟨rfl, rfl⟩
theorem bldLen_any (B b : Nat) (bs : List Value) (w : World) (h : Lib.IsBuilderF 41 5 B b bs w) :
    Calls Tryd.prog 13 #[.pointer (some ⟨b, 0, none⟩)] w fun e w' => e = .returned (.int .i64 (bs.length : Int)) ∧ w' = w := by
  have key : ∃ a c, w.cell? ⟨b, 1, none⟩ = some (.slice a bs.length c) := by
    have one : ∀ p, Lib.BuilderAtF 41 5 B b p bs w → ∃ a c, w.cell? ⟨b, 1, none⟩ = some (.slice a bs.length c) := by
      rintro p ⟨_, v, hb, hown, _⟩
      have c1 : w.cell? ⟨b, 1, none⟩ = some v := by rw [Lib.cell_of_heap hb]; rfl
      rcases hown.2 with ⟨hv, hn⟩ | ⟨g, cap, cur, fz, hv, _⟩
      · exact ⟨none, 0, by rw [c1, hv, hn]⟩
      · exact ⟨_, cap, by rw [c1, hv]⟩
    exact h.elim (one _) (one _)
  obtain ⟨a, c, h1⟩ := key
  exact bldLen_core b _ a c w h1
namespace Pa
/-- What whole answers. -/
def wh (s d : List UInt8) : Except Nat (List UInt8) := if d = sum s then .ok s else .error 4
/-- What Join answers. -/
def joinV : Except Nat (List UInt8) → Value
  | .ok t => .tuple #[.string ⟨t.toArray⟩, .int .i64 0]
  | .error e => .tuple #[.string ⟨#[]⟩, .int .i64 (e : Nat)]
end Pa
set_option maxHeartbeats 1000000 in
theorem pwhole_core (s d X : ByteArray) (w : World) (q : Bool) (hq : (d.toList == X.toList) = q)
    (HS : Hid (Calls Tryd.prog 10 #[.string s] w fun e w' => e = .returned (.string X) ∧ Below w.heap.size w w')) :
    Calls Tryd.prog 11 #[.string s, .string d] w fun e w' => e = .returned (if q = true then .tuple #[.string s, .int .i64 0] else .tuple #[.string ⟨#[]⟩, .int .i64 4]) ∧ Below w.heap.size w w' := by
  cases q with
  | true =>
    rw [if_pos rfl]
    go_enter Tryd.func11, Tryd.ntmps11
    go_wp2_with (go_at_call 10; refine HS.out.mono ?_; rintro e w2 ⟨rfl, b2⟩)
    go_ret2
    exact ⟨rfl, b2⟩
  | false =>
    rw [if_neg (by simp)]
    go_enter Tryd.func11, Tryd.ntmps11
    go_wp2_with (go_at_call 10; refine HS.out.mono ?_; rintro e w2 ⟨rfl, b2⟩)
    go_ret2
    exact ⟨rfl, b2⟩
theorem pwhole_any (s d : List UInt8) (hs : s.length ≤ maxLen) (w : World) (htab : Lib.TabIs Tryd.prog w "internal/strconv.uint64pow10" .u64 Lib.pow10Tab) :
    Calls Tryd.prog 11 #[.string ⟨s.toArray⟩, .string ⟨d.toArray⟩] w fun e w' => e = .returned (Pa.joinV (Pa.wh s d)) ∧ Below w.heap.size w w' := by
  have h := pwhole_core ⟨s.toArray⟩ ⟨d.toArray⟩ ⟨(Pa.sum s).toArray⟩ w (decide (d = Pa.sum s)) (by
    rw [tl_eq, tl_eq]
    show (d == Pa.sum s) = _
    by_cases e : d = Pa.sum s
    · rw [decide_eq_true e, beq_iff_eq]; exact e
    · rw [decide_eq_false e, beq_eq_false_iff_ne]; exact e) (sumOf_any ⟨s.toArray⟩ (by rw [If.size_of]; exact hs) w htab)
  unfold Pa.wh
  by_cases e : d = Pa.sum s
  · rw [decide_eq_true e, if_pos rfl] at h
    rw [if_pos e]; exact h
  · rw [decide_eq_false e, if_neg (by simp)] at h
    rw [if_neg e]; exact h
end Go.Proofs.YteiajngfeiemkabDoor
