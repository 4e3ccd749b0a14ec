/-
  Layer 7: mark.
-/
import Derived.Test.YtalleocmnnnchaaLn3
namespace Go.Proofs.Ytalleocmnnnchaa
open Go.RowKit

theorem search_any (a : Option Addr) (c : Nat) (l : List Int) (q : Int) (w : World) (hn : l.length ≤ 1000000000) (hU : Ln.Up l) (hr : IRow w a l) :
    Calls Try.prog 52 #[.slice a l.length c, .int .i64 q] w fun e w' => e = .returned (.tuple #[.int .i64 ((l.countP (fun x => decide (x < q)) : Nat) : Int), .bool (l.contains q)]) ∧ Below w.heap.size w w' := by
  rcases hr.1 with ⟨rfl, rfl⟩ | ⟨b, o, rfl, hb, hat⟩
  · exact (Try.slices_BinarySearch_int_empty none c q w).mono fun e w' ⟨h1, h2⟩ => ⟨h1, by rw [h2]; exact Below.refl _ _⟩
  · refine (Try.slices_BinarySearch_int b o l.length c l q w (Nat.le_refl _) (by omega) hr.getD (by rw [List.take_length]; exact Ln.up_le hU)).mono fun e w' ⟨h1, k, h2⟩ => ⟨?_, ?_⟩
    · rw [h1, List.take_length]
    · rw [h2]; exact Rg.drewN (Below.refl _ _) k

set_option maxHeartbeats 1000000 in
set_option maxRecDepth 100000 in
theorem lmark_any (a : Option Addr) (c : Nat) (l : List Int) (q : Int) (w : World) (hn : l.length ≤ 1000000000) (hc : l.length ≤ c) (hU : Ln.Up l) (hr : IRow w a l) :
    Calls Try.prog 43 #[.slice a l.length c, .int .i64 q] w fun e w' => IPost w (Ln.mark l q) e w' := by
  have HS : Hid (∀ W, Below w.heap.size w W → Calls Try.prog 52 #[.slice a l.length c, .int .i64 q] W fun e w' => e = .returned (.tuple #[.int .i64 ((l.countP (fun x => decide (x < q)) : Nat) : Int), .bool (l.contains q)]) ∧ Below W.heap.size W w') := fun W hW => search_any a c l q W hn hU (hr.below hW)
  have HC : Hid (∀ W, Below w.heap.size w W → Calls Try.prog 48 #[.slice a l.length c] W fun e w' => ∃ a' c', e = .returned (.slice a' l.length c') ∧ SI W.heap.size w' a' c' l ∧ Below W.heap.size W w') := fun W hW => clone_any a c l W hn (hr.below hW)
  have hcp : l.countP (fun x => decide (x < q)) ≤ l.length := List.countP_le_length
  have HI := Rg.hid (fun a' c' vb base W hb hS hv hvb => insert_any a' c' l (l.countP (fun x => decide (x < q))) q vb base W hn hcp hb hS hv hvb)
  have hold : Hid (l.contains q = true → Ln.mark l q = l) := fun h => Ln.mark_old hU (by simpa using h)
  have hnew : Hid (l.contains q = false → l.take (l.countP (fun x => decide (x < q))) ++ q :: l.drop (l.countP (fun x => decide (x < q))) = Ln.mark l q ∧ l.length + 1 = (Ln.mark l q).length) := fun h => by
    have e := Ln.mark_new hU (q := q) (by simpa using h)
    exact ⟨e, by rw [← e, ins_len hcp]⟩
  have hrow := Rg.hid hr
  generalize Ln.mark l q = L at *
  generalize l.countP (fun x => decide (x < q)) = i at *
  generalize l.contains q = B at *
  obtain ⟨N, hN⟩ : ∃ N, N = l.length := ⟨_, rfl⟩
  rw [← hN] at HS HC HI hc ⊢
  replace hN := Rg.hid hN
  cases B
  · obtain ⟨e1, e2⟩ := hnew.out rfl
    rw [e1] at HI
    rw [← hN.out] at e2
    replace e2 := Rg.hid e2
    clear hold hnew e1 hr hU hn hcp hrow
    go_enter Try.func43, Try.ntmps43
    go_wp2_with (go_at_call 52; refine (HS.out _ (Below.refl _ _)).mono ?_)
    rintro e w1 ⟨rfl, b1⟩
    go_wp2_with (go_at_call 48; refine (HC.out _ b1).mono ?_)
    rintro e w2 ⟨a2, c2, rfl, hS2, b2⟩
    have hS2' := Rg.hid hS2
    clear hS2
    have HI2 : Hid (Calls Try.prog 53 #[.slice a2 N c2, .int .i64 i, .slice (some ⟨w2.heap.size, 0, none⟩) 1 1] (w2.alloc (.cells #[.int .i64 q] 3)) fun e w' => ∃ a' c', e = .returned (.slice a' (N + 1) c') ∧ IRow w' a' L ∧ N + 1 ≤ c' ∧ Below w1.heap.size (w2.alloc (.cells #[.int .i64 q] 3)) w') := by
      refine HI.out a2 c2 w2.heap.size w1.heap.size _ (Nat.le_trans b2.size (by simp)) ?_ (Rg.Bk.new rfl) ?_
      · rcases hS2'.out with h | ⟨g, rest, h, h2⟩
        · exact .inl h
        · exact .inr ⟨g, rest, h, h2.below (Rg.al1 _ _)⟩
      · intro g o e
        rcases hS2'.out with ⟨h, _⟩ | ⟨g', rest, h, h2⟩
        · rw [h] at e; cases e
        · rw [h] at e; injection e with e; injection e with e1 e2
          subst e1
          have := h2.lt; omega
    clear HI HS HC hS2'
    go_wp2_with (go_at_call 53; refine HI2.out.mono ?_)
    rintro e w3 ⟨a3, c3, rfl, hr3, hc3, b3⟩
    go_wp2
    go_ret
    exact ⟨a3, c3, by rw [e2.out]; rfl, hr3, by rw [← e2.out]; exact hc3, (Rg.chain (Rg.chain b1 b2) (Rg.al1 w2 (.cells #[.int .i64 q] 3))).trans (b3.mono b1.size)⟩
  · have e1 := hold.out rfl
    subst e1
    clear hold hnew HC HI hU hn hcp hr
    go_enter Try.func43, Try.ntmps43
    go_wp2_with (go_at_call 52; refine (HS.out _ (Below.refl _ _)).mono ?_)
    rintro e w1 ⟨rfl, b1⟩
    go_wp2
    go_ret
    exact ⟨a, c, by rw [hN.out]; rfl, hrow.out.below b1, by rw [← hN.out]; exact hc, b1⟩
end Go.Proofs.Ytalleocmnnnchaa
