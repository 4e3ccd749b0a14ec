/-
  Layer 7: unmark.
-/
import Derived.Test.YtalleocmnnnchaaLn5
namespace Go.Proofs.Ytalleocmnnnchaa
open Go.RowKit Go.Sort

theorem Bk_putRow {g off : Nat} {C : List Value} {ty : TypeId} {W : World} (d : Array Int) (h : Rg.Bk g C ty W) : (∃ C', Rg.Bk g C' ty (putRow (Value.int .i64) W g off d)) ∧ Rg.Only g W (putRow (Value.int .i64) W g off d) := by
  unfold Rg.Bk at *
  refine ⟨?_, ?_⟩
  · refine ⟨(putCells (Value.int .i64) off d C.toArray).toList, ?_⟩
    simp [putRow, mapBlock, Array.getElem?_modify, h, onCells]
  · exact ⟨rfl, rfl, rfl, size_putRow _ _ _ _ _, fun k hk => by simp [putRow, mapBlock, Array.getElem?_modify, Ne.symm hk]⟩

set_option maxHeartbeats 400000 in
theorem eqfn_any (q x : Int) (B : Nat) (W : World) (hc : W.cell? ⟨B, 0, none⟩ = some (.int .i64 q)) :
    Calls Try.prog 51 #[.int .i64 x, .pointer (some ⟨B, 0, none⟩)] W fun e w' => e = .returned (.bool (decide (x = q))) ∧ ∃ k, w' = W.drewN k := by
  by_cases h : x = q
  · subst h
    have d : (x == x) = true := by simp
    go_enter Try.func51, Try.ntmps51
    go_wp2
    go_ret
    exact ⟨ret_bool (by simp), 0, rfl⟩
  · have d : (x == q) = false := by simp [h]
    have d2 : decide (x = q) = false := by simp [h]
    rw [d2]
    clear h
    go_enter Try.func51, Try.ntmps51
    go_wp2
    go_ret
    exact ⟨rfl, 0, rfl⟩

set_option maxHeartbeats 400000 in
theorem delete_nil (f : Value) (w : World) : Calls Try.prog 50 #[.slice none 0 0, f] w fun e w' => e = .returned (.slice none 0 0) ∧ w' = w := by
  have HI : Hid (∀ W, Calls Try.prog 47 #[.slice none 0 0, f] W fun e w' => e = .returned (.int .i64 (-1)) ∧ w' = W) := fun W => Try.slices_IndexFunc_empty (α := Int) none 0 f W
  go_enter Try.func50, Try.ntmps50
  go_wp2_with (go_at_call 47; refine (HI.out _).mono ?_; rintro e w' ⟨rfl, rfl⟩)
  go_ret
  exact ⟨rfl, rfl⟩

set_option maxHeartbeats 1000000 in
set_option maxRecDepth 100000 in
theorem lunmark_any (a : Option Addr) (c : Nat) (l : List Int) (q : Int) (w : World) (hn : l.length ≤ 1000000000) (hr : IRow w a l) :
    Calls Try.prog 42 #[.slice a l.length c, .int .i64 q] w fun e w' => IPost w (l.filter (fun p => !decide (p = q))) e w' := by
  have HC : Hid (∀ W, Below w.heap.size w W → Calls Try.prog 48 #[.slice a l.length c] W fun e w' => ∃ a' c', e = .returned (.slice a' l.length c') ∧ SI W.heap.size w' a' c' l ∧ Below W.heap.size W w') := fun W hW => clone_any a c l W hn (hr.below hW)
  have HD : Hid (∀ W a' c', Below (w.alloc (.cells #[.int .i64 q] 3)).heap.size (w.alloc (.cells #[.int .i64 q] 3)) W → SI (w.alloc (.cells #[.int .i64 q] 3)).heap.size W a' c' l → Calls Try.prog 50 #[.slice a' l.length c', .func (.func 51) #[] #[.pointer (some ⟨w.heap.size, 0, none⟩)]] W fun e w' => IPost w (l.filter (fun p => !decide (p = q))) e w') := fun W a' c' hW hS => by
    rcases hS with ⟨rfl, rfl, rfl⟩ | ⟨g, rest, rfl, hO⟩
    · exact (delete_nil _ W).mono fun e w' ⟨h1, h2⟩ => ⟨none, 0, h1, IRow.nil, Nat.le_refl _, by rw [h2]; exact Rg.chain (Rg.al1 _ _) hW⟩
    · have eg : ∀ args w, (callFunc 51 args).run Try.prog w = .ok (.enter 51 args) w := enters_of Try.func51 (by kernel_rfl) rfl
      have kP : Rg.Bk w.heap.size [.int .i64 q] 3 W := Rg.Bk.below (Rg.Bk.new rfl) hW (by simp)
      have hgn := hO.new
      have hPg : w.heap.size ≠ g := by simp at hgn; omega
      have hH : Holds (Value.int .i64) W g 0 l.toArray := fun j hj => by
        have hj' : j < l.length := by simpa using hj
        refine ⟨?_, hO.thaw _⟩
        rw [(Own.irow hO).cell hj']
        simp [getElem!_pos, hj']
      have := Try.slices_DeleteFunc (Value.int .i64) (fun _ => rfl) (fun p => decide (p = q)) 51 #[.pointer (some ⟨w.heap.size, 0, none⟩)] eg 0 Try.zeroValue3 g 0 c' l.toArray W
        (fun W' x hb => eqfn_any q x w.heap.size W' ((hb.cell (p := ⟨w.heap.size, 0, none⟩) kP.lt).trans (kP.cell 0)))
        (fun n os dk x _ => eqfn_any q x w.heap.size _ (by
          unfold sortWorld
          rw [cell?_grow _ _ _ (by show w.heap.size < (putRow _ _ _ _ _).heap.size; rw [size_putRow]; exact kP.lt), cell?_putRow_other _ _ g 0 _ _ (Or.inl hPg)]
          exact kP.cell 0)) hH (by simp; omega) (by simpa using hO.le)
      simp only [List.size_toArray] at this
      refine this.mono fun e w' ⟨h1, k, h2⟩ => ?_
      have hfl := List.length_filter_le (fun p => !decide (p = q)) l
      refine ⟨some ⟨g, 0, none⟩, c', h1, ?_, Nat.le_trans hfl hO.le, ?_⟩
      · rw [h2]
        obtain ⟨⟨C', k'⟩, _⟩ := Bk_putRow (off := 0) (W := Sort.ahead W k) ((l.filter (fun p => !decide (p = q))) ++ List.replicate (l.length - (l.filter (fun p => !decide (p = q))).length) 0).toArray hO.blk
        refine IRow.of k' fun j hj => ?_
        rw [cell?_putRow (Value.int .i64) (Sort.ahead W k) g 0 l.toArray _ hH (by simp; omega) j (by simp; omega)]
        simp [getElem!_pos, List.getElem_append_left hj, show j < (l.filter (fun p => !decide (p = q))).length + (l.length - (l.filter (fun p => !decide (p = q))).length) by omega]
      · rw [h2]
        have hb : Below w.heap.size w (Sort.ahead W k) := Rg.drewN (Rg.chain (Rg.al1 _ _) hW) k
        exact hb.trans ((Bk_putRow (off := 0) (W := Sort.ahead W k) _ hO.blk).2.bel (by simp at hgn; omega))
  obtain ⟨N, hN⟩ : ∃ N, N = l.length := ⟨_, rfl⟩
  rw [← hN] at HC HD ⊢
  clear hN hn hr
  go_enter Try.func42, Try.ntmps42
  go_wp2_with (go_at_call 48; refine (HC.out _ (Rg.al1 _ _)).mono ?_)
  rintro e w2 ⟨a2, c2, rfl, hS2, b2⟩
  have HD2 := Rg.hid (HD.out w2 a2 c2 b2 hS2)
  clear HC HD hS2 b2
  go_wp2_with (go_at_call 50; refine HD2.out.mono ?_)
  rintro e w3 ⟨a3, c3, rfl, h3⟩
  go_wp2
  go_ret
  exact ⟨a3, c3, rfl, h3⟩
end Go.Proofs.Ytalleocmnnnchaa
