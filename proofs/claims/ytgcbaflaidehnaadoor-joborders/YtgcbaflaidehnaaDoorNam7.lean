/-
  Walks of layer 3: the document's File, ParseId, the document's ParseId.
-/
import Derived.Test.YtgcbaflaidehnaaDoorNam6
namespace Go.Proofs.YtgcbaflaidehnaaDoor
open Go.RowKit

theorem fileT_ba2 (k : Int) (s : ByteArray) (g n : Int) : (⟨#[Nam.byteOf k]⟩ ++ ⟨#[46]⟩ ++ s ++ ⟨#[46]⟩ ++ ⟨(Nam.idT g n).toArray⟩ : ByteArray) = ⟨(Nam.fileT k s.data.toList g n).toArray⟩ := by
  rw [sysT_ba]; exact fileT_ba k s g n
theorem below_alloc3 (w : World) (a b c : Obj) : Below w.heap.size w (((w.alloc a).alloc b).alloc c) := (below_alloc2 w a b).alloc (below_alloc2 w a b).size _
theorem heap_first (w : World) (a b : Obj) : ((w.alloc a).alloc b).heap[w.heap.size]? = some a := by
  rw [(below_alloc1 (w.alloc a) b).block w.heap.size (by simp)]; exact (MapKept.heap_alloc w a).1
theorem cells_zero (w w2 : World) (b : Obj) (b2 : Below ((w.alloc (.cells #[.int .i64 0, .int .i64 0] 27)).alloc b).heap.size ((w.alloc (.cells #[.int .i64 0, .int .i64 0] 27)).alloc b) w2) :
    w2.cell? ⟨w.heap.size, 0, none⟩ = some (.int .i64 0) ∧ w2.cell? ⟨w.heap.size, 1, none⟩ = some (.int .i64 0) := by
  have h : w2.heap[w.heap.size]? = some (.cells #[.int .i64 0, .int .i64 0] 27) := by
    rw [b2.block w.heap.size (by simp; omega)]; exact heap_first w _ _
  exact ⟨by rw [Lib.cell_of_heap h 0]; rfl, by rw [Lib.cell_of_heap h 1]; rfl⟩
theorem two_cells {W : World} {b : Nat} {u0 u1 : Value} (h0 : W.cell? ⟨b, 0, none⟩ = some u0) (h1 : W.cell? ⟨b, 1, none⟩ = some u1) (v0 v1 : Value) :
    (W.setCell ⟨b, 0, none⟩ v0).cell? ⟨b, 0, none⟩ = some v0 ∧ ((W.setCell ⟨b, 0, none⟩ v0).setCell ⟨b, 1, none⟩ v1).cell? ⟨b, 1, none⟩ = some v1 ∧ ((W.setCell ⟨b, 0, none⟩ v0).setCell ⟨b, 1, none⟩ v1).cell? ⟨b, 0, none⟩ = some v0 := by
  have a0 := World.cell?_setCell_same W ⟨b, 0, none⟩ v0 h0
  have a1 : (W.setCell ⟨b, 0, none⟩ v0).cell? ⟨b, 1, none⟩ = some u1 := by rw [World.cell?_setCell_other]; exact h1; simp
  exact ⟨a0, World.cell?_setCell_same _ ⟨b, 1, none⟩ v1 a1, by rw [World.cell?_setCell_other]; exact a0; simp⟩
namespace Nam
theorem pid_at (s : ByteArray) (hp : 0 < s.size) : pid s.data.toList = if (Oct.number (s.data.toList.drop 1)).2 = 0 ∧ may (s[0].toNat : Int) ((Oct.number (s.data.toList.drop 1)).1 : Int) = true then ((s[0].toNat : Int), ((Oct.number (s.data.toList.drop 1)).1 : Int), 0) else (0, 0, 3) := by
  have hl : 0 < s.data.toList.length := by rw [Oct.len_eq]; exact hp
  have hd : s.data.toList = s[0] :: s.data.toList.drop 1 := by
    have := List.drop_eq_getElem_cons hl
    rw [List.drop_zero] at this; exact this
  conv => lhs; rw [hd, pid]
end Nam

set_option maxHeartbeats 1000000 in
theorem parseId_any (s : ByteArray) (w : World) (hs : s.size ≤ maxLen) :
    Calls Tryd.prog 33 #[.string s] w fun e w' => e = .returned (.tuple #[.agg #[.int .i64 (Nam.pid s.data.toList).1, .int .i64 (Nam.pid s.data.toList).2.1], .int .i64 (Nam.pid s.data.toList).2.2]) ∧ Below w.heap.size w w' := by
  have hs' := hs
  unfold maxLen at hs
  by_cases h0 : s.size = 0
  · have hz : s = ⟨#[]⟩ := ByteArray.ext (Array.eq_empty_of_size_eq_zero h0)
    subst hz
    go_enter Tryd.func33, Tryd.ntmps33
    go_wp2
    exact bodyPost_ret (v := .tuple #[.agg #[.int .i64 0, .int .i64 0], .int .i64 3]) (by simp [results, Tryd.results33, go_sem]) rfl ⟨rfl, below_alloc1 _ _⟩
  · have hz : (s.toList == []) = false := by
      rw [beq_eq_false_iff_ne]; intro h; rw [ByteArray.toList_eq] at h; exact h0 (by rw [← Oct.len_eq s, h]; rfl)
    have hp : 0 < s.size := by omega
    have hpid := Nam.pid_at s hp
    have HN : Hid (∀ w : World, Calls Tryd.prog 34 #[.string (s.extract 1 s.size)] w fun e w' => e = .returned (.tuple #[.int .i64 (Oct.number (s.data.toList.drop 1)).1, .int .i64 (Oct.number (s.data.toList.drop 1)).2]) ∧ w' = w) := fun w => by
      have := number_any (s.extract 1 s.size) w (by rw [extract_drop]; show (List.toArray _).size ≤ _; rw [List.size_toArray, List.length_drop, Oct.len_eq]; unfold maxLen; omega)
      rw [extract_drop] at this ⊢
      exact this
    generalize Oct.number (s.data.toList.drop 1) = Q at *
    obtain ⟨n, e⟩ := Q
    dsimp only at hpid HN
    by_cases he : e = 0
    · subst he
      have HN0 : Hid (∀ w : World, Calls Tryd.prog 34 #[.string (s.extract 1 s.size)] w fun e w' => e = .returned (.tuple #[.int .i64 (n : Int), .int .i64 0]) ∧ w' = w) := HN.out
      have HM : Hid (∀ w : World, Calls Tryd.prog 26 #[.agg #[.int .i64 (wrap64 (s[0].toNat : Int)), .int .i64 (n : Int)]] w fun e w' => e = .returned (.bool (Nam.may (s[0].toNat : Int) (n : Int))) ∧ w' = w.alloc (.cells #[.int .i64 (wrap64 (s[0].toNat : Int)), .int .i64 (n : Int)] 27)) := fun w => by have := mayBe_any (s[0].toNat : Int) (n : Int) w; rw [wrap_byte]; exact this
      have HW : Hid (wrap64 (s[0].toNat : Int) = (s[0].toNat : Int)) := wrap_byte _
      have HP : Hid (Nam.pid s.data.toList = if Nam.may (s[0].toNat : Int) (n : Int) = true then ((s[0].toNat : Int), (n : Int), 0) else (0, 0, 3)) := by show _ = _; rw [hpid]; simp
      clear hpid HN
      cases hm : Nam.may (s[0].toNat : Int) (n : Int) with
      | false =>
        have HR : Hid (Nam.pid s.data.toList = (0, 0, 3)) := by show _ = _; rw [HP.out, hm]; rfl
        rw [hm] at HM
        clear hm HP
        go_enter Tryd.func33, Tryd.ntmps33
        go_wp2_with (go_at_call 34; refine (HN0.out _).mono ?_; rintro e w1 ⟨rfl, rfl⟩)
        go_wp2_with (go_at_call 26; refine (HM.out _).mono ?_; rintro e w1 ⟨rfl, rfl⟩)
        exact bodyPost_ret (v := .tuple #[.agg #[.int .i64 0, .int .i64 0], .int .i64 3]) (by simp [results, Tryd.results33, go_sem]) rfl ⟨by rw [HR.out], below_alloc3 _ _ _ _⟩
      | true =>
        have HR : Hid (Nam.pid s.data.toList = ((s[0].toNat : Int), (n : Int), 0)) := by show _ = _; rw [HP.out, hm]; rfl
        rw [hm] at HM
        clear hm HP
        go_enter Tryd.func33, Tryd.ntmps33
        go_wp2_with (go_at_call 34; refine (HN0.out _).mono ?_; rintro e w1 ⟨rfl, rfl⟩)
        go_wp2_with (go_at_call 26; refine (HM.out _).mono ?_; rintro e w1 ⟨rfl, rfl⟩)
        exact bodyPost_ret (v := .tuple #[.agg #[.int .i64 (wrap64 (s[0].toNat : Int)), .int .i64 (n : Int)], .int .i64 0]) (by simp [results, Tryd.results33, go_sem]) rfl ⟨by rw [HR.out, HW.out], by first | exact below_alloc3 _ _ _ _ | exact ((below_alloc3 _ _ _ _).setCell (by simp) _).setCell (by simp) _⟩
    · have HR : Hid (Nam.pid s.data.toList = (0, 0, 3)) := by show _ = _; rw [hpid]; simp [he]
      have de : ((e : Int) != 0) = true := by rw [bne_iff_ne]; omega
      clear hpid he
      go_enter Tryd.func33, Tryd.ntmps33
      go_wp2_with (go_at_call 34; refine (HN.out _).mono ?_; rintro e w1 ⟨rfl, rfl⟩)
      exact bodyPost_ret (v := .tuple #[.agg #[.int .i64 0, .int .i64 0], .int .i64 3]) (by simp [results, Tryd.results33, go_sem]) rfl ⟨by rw [HR.out], below_alloc2 _ _ _⟩

end Go.Proofs.YtgcbaflaidehnaaDoor
