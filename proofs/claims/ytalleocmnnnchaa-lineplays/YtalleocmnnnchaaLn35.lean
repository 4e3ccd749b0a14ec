/-
  Layer 7: the document's calls of a line in memory.
-/
import Derived.Test.YtalleocmnnnchaaLn34
import Derived.Test.YtalleocmnnnchaaLn24
namespace Go.Proofs.Ytalleocmnnnchaa
open Go.RowKit

theorem RPost.e {w w' : World} {e : Ending} {c : Int} (L : Ln.Li) (h : RPost ⟨L.a.x.toArray⟩ (L.a.p : Int) L.a.bad.length L.a.gap.length ⟨L.b.x.toArray⟩ (L.b.p : Int) L.b.bad.length L.b.gap.length L.up L.a.bad L.a.gap L.b.bad L.b.gap (.int .i64 c) w e w') : EPost w (L, c) e w' := by
  obtain ⟨b0, c0, g0, d0, b1, c1, g1, d1, h0, ⟨h1, h2, h3, h4, h5, h6, h7, h8⟩, hb⟩ := h
  exact ⟨_, h0, ⟨b0, c0, g0, d0, b1, c1, g1, d1, rfl, h1, h2, h3, h4, h5, h6, h7, h8⟩, hb⟩
theorem RPost.t {w w' : World} {e : Ending} {c : List UInt8} (L : Ln.Li) (h : RPost ⟨L.a.x.toArray⟩ (L.a.p : Int) L.a.bad.length L.a.gap.length ⟨L.b.x.toArray⟩ (L.b.p : Int) L.b.bad.length L.b.gap.length L.up L.a.bad L.a.gap L.b.bad L.b.gap (.string ⟨c.toArray⟩) w e w') : TPost w (L, c) e w' := by
  obtain ⟨b0, c0, g0, d0, b1, c1, g1, d1, h0, ⟨h1, h2, h3, h4, h5, h6, h7, h8⟩, hb⟩ := h
  exact ⟨_, h0, ⟨b0, c0, g0, d0, b1, c1, g1, d1, rfl, h1, h2, h3, h4, h5, h6, h7, h8⟩, hb⟩
theorem ba_ex1 (l : List UInt8) (k : Nat) : (⟨l.toArray⟩ : ByteArray).extract 0 k = ⟨(l.take k).toArray⟩ := by
  rw [ba_ex, List.drop_zero, Nat.sub_zero]
theorem ba_ex2 (l : List UInt8) (k : Nat) : (⟨l.toArray⟩ : ByteArray).extract k (⟨l.toArray⟩ : ByteArray).size = ⟨(l.drop k).toArray⟩ := by
  rw [ba_ex, ba_sz, List.take_of_length_le (by rw [List.length_drop]; exact Nat.le_refl _)]
theorem ba_two (l m : List UInt8) : (⟨l.toArray⟩ : ByteArray) ++ ⟨m.toArray⟩ = ⟨(l ++ m).toArray⟩ := by rw [ba_cat]
theorem rnew_at (w : World) : Calls Try.prog 12 #[] w fun e w' => ∃ v, e = .returned v ∧ LAt w' v Ln.new ∧ Below w.heap.size w w' :=
  (rnew_any w).mono fun _ _ ⟨h1, h2⟩ => ⟨_, h1, ⟨none, 0, none, 0, none, 0, none, 0, rfl, IRow.nil, Nat.le_refl _, IRow.nil, Nat.le_refl _, IRow.nil, Nat.le_refl _, IRow.nil, Nat.le_refl _⟩, h2⟩
theorem rhang_at (v : Value) (L : Ln.Li) (w : World) (h : LAt w v L) : Calls Try.prog 30 #[v] w fun e w' => ∃ v', e = .returned v' ∧ LAt w' v' Ln.hung ∧ Below w.heap.size w w' := by
  obtain ⟨b0, c0, g0, d0, b1, c1, g1, d1, rfl, h1, h2, h3, h4, h5, h6, h7, h8⟩ := h
  exact (rhang_any ⟨L.a.x.toArray⟩ (L.a.p : Int) b0 L.a.bad.length c0 g0 L.a.gap.length d0 ⟨L.b.x.toArray⟩ (L.b.p : Int) b1 L.b.bad.length c1 g1 L.b.gap.length d1 L.up w).mono fun _ _ ⟨q1, q2⟩ => ⟨_, q1, ⟨none, 0, none, 0, none, 0, none, 0, rfl, IRow.nil, Nat.le_refl _, IRow.nil, Nat.le_refl _, IRow.nil, Nat.le_refl _, IRow.nil, Nat.le_refl _⟩, q2⟩
theorem ropen_at (v : Value) (L : Ln.Li) (N : Nat) (w : World) (hL : Ln.LOk N L) (hN : N ≤ 1000000) (h : LAt w v L) : Calls Try.prog 31 #[v] w fun e w' => EPost w (Ln.open_ L) e w' := by
  obtain ⟨b0, c0, g0, d0, b1, c1, g1, d1, rfl, h1, h2, h3, h4, h5, h6, h7, h8⟩ := h
  have fa := hL.a.full
  have fb := hL.b.full
  have sa := hL.a.size
  have sb := hL.b.size
  have lba := hL.a.lbad
  have lga := hL.a.lgap
  have lbb := hL.b.lbad
  have lgb := hL.b.lgap
  have hA := hL.a
  have hB := hL.b
  obtain ⟨A, B, up⟩ := L
  dsimp only at *
  clear hA hB
  cases up
  · exact (ropen_down ⟨A.x.toArray⟩ (A.p : Int) b0 A.bad.length c0 g0 A.gap.length d0 ⟨B.x.toArray⟩ (B.p : Int) b1 B.bad.length c1 g1 B.gap.length d1 w).mono fun _ _ ⟨q1, q2⟩ => ⟨_, q1, ⟨none, 0, none, 0, none, 0, none, 0, rfl, IRow.nil, Nat.le_refl _, IRow.nil, Nat.le_refl _, IRow.nil, Nat.le_refl _, IRow.nil, Nat.le_refl _⟩, q2⟩
  · exact (ropen_up ⟨A.x.toArray⟩ (A.p : Int) b0 A.bad.length c0 g0 A.gap.length d0 ⟨B.x.toArray⟩ (B.p : Int) b1 B.bad.length c1 g1 B.gap.length d1 A.bad A.gap B.bad B.gap (Rg.hid rfl) (Rg.hid rfl) (Rg.hid rfl) (Rg.hid rfl) (by omega) (by omega) (by omega) (by omega) w ⟨h1, h2, h3, h4, h5, h6, h7, h8⟩).mono fun _ _ q => q.e ⟨A, B, _⟩
theorem rsend_at (v : Value) (L : Ln.Li) (n : Int) (s : ByteArray) (N : Nat) (w : World) (hL : Ln.LOk N L) (hN : N ≤ 1000000) (h : LAt w v L) : Calls Try.prog 25 #[v, .int .i64 n, .string s] w fun e w' => EPost w (Ln.send L n s.data.toList) e w' := by
  obtain ⟨b0, c0, g0, d0, b1, c1, g1, d1, rfl, h1, h2, h3, h4, h5, h6, h7, h8⟩ := h
  have fa := hL.a.full
  have fb := hL.b.full
  have sa := hL.a.size
  have sb := hL.b.size
  have lba := hL.a.lbad
  have lga := hL.a.lgap
  have lbb := hL.b.lbad
  have lgb := hL.b.lgap
  have hA := hL.a
  have hB := hL.b
  obtain ⟨A, B, up⟩ := L
  dsimp only at *
  have hsl : s.data.toList.length = s.size := rfl
  unfold Ln.send
  by_cases n0 : n = 0
  · subst n0
    rw [if_neg (by decide)]
    cases up
    · exact (rsend_down0 ⟨A.x.toArray⟩ (A.p : Int) b0 A.bad.length c0 g0 A.gap.length d0 ⟨B.x.toArray⟩ (B.p : Int) b1 B.bad.length c1 g1 B.gap.length d1 s A.bad A.gap B.bad B.gap (Rg.hid rfl) (Rg.hid rfl) (Rg.hid rfl) (Rg.hid rfl) (by omega) (by omega) (by omega) (by omega) w ⟨h1, h2, h3, h4, h5, h6, h7, h8⟩).mono fun _ _ q => q.e ⟨A, B, _⟩
    · rw [if_neg (by simp)]
      show Calls _ _ _ _ fun e w' => EPost w (if 40000 < A.x.length + s.data.toList.length then _ else _) e w'
      by_cases hf : 40000 < A.x.length + s.data.toList.length
      · rw [if_pos hf]
        exact (rsend_full0 ⟨A.x.toArray⟩ (A.p : Int) b0 A.bad.length c0 g0 A.gap.length d0 ⟨B.x.toArray⟩ (B.p : Int) b1 B.bad.length c1 g1 B.gap.length d1 s A.bad A.gap B.bad B.gap (Rg.hid rfl) (Rg.hid rfl) (Rg.hid rfl) (Rg.hid rfl) (by omega) (by omega) (by omega) (by omega) w ⟨h1, h2, h3, h4, h5, h6, h7, h8⟩ (by rw [ba_sz]; omega) (by rw [ba_sz]; omega)).mono fun _ _ q => q.e ⟨A, B, _⟩
      · rw [if_neg hf]
        have hh := rsend_ok0 ⟨A.x.toArray⟩ (A.p : Int) b0 A.bad.length c0 g0 A.gap.length d0 ⟨B.x.toArray⟩ (B.p : Int) b1 B.bad.length c1 g1 B.gap.length d1 s A.bad A.gap B.bad B.gap (Rg.hid rfl) (Rg.hid rfl) (Rg.hid rfl) (Rg.hid rfl) (by omega) (by omega) (by omega) (by omega) w ⟨h1, h2, h3, h4, h5, h6, h7, h8⟩ (by rw [ba_sz]; omega)
        rw [ba_cat] at hh
        exact (hh).mono fun _ _ q => q.e ⟨Ln.sendW A s.data.toList, B, _⟩
  · by_cases n1 : n = 1
    · subst n1
      rw [if_neg (by decide)]
      cases up
      · exact (rsend_down1 ⟨A.x.toArray⟩ (A.p : Int) b0 A.bad.length c0 g0 A.gap.length d0 ⟨B.x.toArray⟩ (B.p : Int) b1 B.bad.length c1 g1 B.gap.length d1 s A.bad A.gap B.bad B.gap (Rg.hid rfl) (Rg.hid rfl) (Rg.hid rfl) (Rg.hid rfl) (by omega) (by omega) (by omega) (by omega) w ⟨h1, h2, h3, h4, h5, h6, h7, h8⟩).mono fun _ _ q => q.e ⟨A, B, _⟩
      · rw [if_neg (by simp)]
        show Calls _ _ _ _ fun e w' => EPost w (if 40000 < B.x.length + s.data.toList.length then _ else _) e w'
        by_cases hf : 40000 < B.x.length + s.data.toList.length
        · rw [if_pos hf]
          exact (rsend_full1 ⟨A.x.toArray⟩ (A.p : Int) b0 A.bad.length c0 g0 A.gap.length d0 ⟨B.x.toArray⟩ (B.p : Int) b1 B.bad.length c1 g1 B.gap.length d1 s A.bad A.gap B.bad B.gap (Rg.hid rfl) (Rg.hid rfl) (Rg.hid rfl) (Rg.hid rfl) (by omega) (by omega) (by omega) (by omega) w ⟨h1, h2, h3, h4, h5, h6, h7, h8⟩ (by rw [ba_sz]; omega) (by rw [ba_sz]; omega)).mono fun _ _ q => q.e ⟨A, B, _⟩
        · rw [if_neg hf]
          have hh := rsend_ok1 ⟨A.x.toArray⟩ (A.p : Int) b0 A.bad.length c0 g0 A.gap.length d0 ⟨B.x.toArray⟩ (B.p : Int) b1 B.bad.length c1 g1 B.gap.length d1 s A.bad A.gap B.bad B.gap (Rg.hid rfl) (Rg.hid rfl) (Rg.hid rfl) (Rg.hid rfl) (by omega) (by omega) (by omega) (by omega) w ⟨h1, h2, h3, h4, h5, h6, h7, h8⟩ (by rw [ba_sz]; omega)
          rw [ba_cat] at hh
          exact (hh).mono fun _ _ q => q.e ⟨A, Ln.sendW B s.data.toList, _⟩
    · rw [if_pos (by simp [Ln.nway, n0, n1])]
      exact (rsend_bad ⟨A.x.toArray⟩ (A.p : Int) b0 A.bad.length c0 g0 A.gap.length d0 ⟨B.x.toArray⟩ (B.p : Int) b1 B.bad.length c1 g1 B.gap.length d1 up n s A.bad A.gap B.bad B.gap (Rg.hid rfl) (Rg.hid rfl) (Rg.hid rfl) (Rg.hid rfl) (by omega) (by omega) (by omega) (by omega) w ⟨h1, h2, h3, h4, h5, h6, h7, h8⟩ n0 n1).mono fun _ _ q => q.e ⟨A, B, _⟩
theorem rtake_at (v : Value) (L : Ln.Li) (n m : Int) (N : Nat) (w : World) (hL : Ln.LOk N L) (hN : N ≤ 1000000) (h : LAt w v L) : Calls Try.prog 26 #[v, .int .i64 n, .int .i64 m] w fun e w' => TPost w (Ln.take L n m) e w' := by
  obtain ⟨b0, c0, g0, d0, b1, c1, g1, d1, rfl, h1, h2, h3, h4, h5, h6, h7, h8⟩ := h
  have fa := hL.a.full
  have fb := hL.b.full
  have sa := hL.a.size
  have sb := hL.b.size
  have lba := hL.a.lbad
  have lga := hL.a.lgap
  have lbb := hL.b.lbad
  have lgb := hL.b.lgap
  have hA := hL.a
  have hB := hL.b
  obtain ⟨A, B, up⟩ := L
  dsimp only at *
  unfold Ln.take
  by_cases n0 : n = 0
  · subst n0
    by_cases hm : m < 1
    · rw [if_pos (.inr hm)]
      exact (rtake_none0 ⟨A.x.toArray⟩ (A.p : Int) b0 A.bad.length c0 g0 A.gap.length d0 ⟨B.x.toArray⟩ (B.p : Int) b1 B.bad.length c1 g1 B.gap.length d1 up m A.bad A.gap B.bad B.gap (Rg.hid rfl) (Rg.hid rfl) (Rg.hid rfl) (Rg.hid rfl) (by omega) (by omega) (by omega) (by omega) w ⟨h1, h2, h3, h4, h5, h6, h7, h8⟩ hm).mono fun _ _ q => q.t ⟨A, B, _⟩
    · rw [if_neg (by intro q; rcases q with q | q; (· revert q; decide); exact hm q)]
      show Calls _ _ _ _ fun e w' => TPost w (Ln.put _ 0 (Ln.takeW A (Ln.much m A.x.length)), A.x.take (Ln.much m A.x.length)) e w'
      have hM : min m ((⟨A.x.toArray⟩ : ByteArray).size : Int) = ((Ln.much m A.x.length : Nat) : Int) := by rw [ba_sz]; unfold Ln.much; omega
      have hh := rtake_some0 ⟨A.x.toArray⟩ (A.p : Int) b0 A.bad.length c0 g0 A.gap.length d0 ⟨B.x.toArray⟩ (B.p : Int) b1 B.bad.length c1 g1 B.gap.length d1 up m A.bad A.gap B.bad B.gap (Rg.hid rfl) (Rg.hid rfl) (Rg.hid rfl) (Rg.hid rfl) (by omega) (by omega) (by omega) (by omega) w ⟨h1, h2, h3, h4, h5, h6, h7, h8⟩ _ (by omega) hM (by rw [ba_sz]; omega) (by omega) (by omega)
      rw [ba_ex1, ba_ex2] at hh
      exact (hh).mono fun _ _ q => q.t ⟨Ln.takeW A (Ln.much m A.x.length), B, _⟩
  · by_cases n1 : n = 1
    · subst n1
      by_cases hm : m < 1
      · rw [if_pos (.inr hm)]
        exact (rtake_none1 ⟨A.x.toArray⟩ (A.p : Int) b0 A.bad.length c0 g0 A.gap.length d0 ⟨B.x.toArray⟩ (B.p : Int) b1 B.bad.length c1 g1 B.gap.length d1 up m A.bad A.gap B.bad B.gap (Rg.hid rfl) (Rg.hid rfl) (Rg.hid rfl) (Rg.hid rfl) (by omega) (by omega) (by omega) (by omega) w ⟨h1, h2, h3, h4, h5, h6, h7, h8⟩ hm).mono fun _ _ q => q.t ⟨A, B, _⟩
      · rw [if_neg (by intro q; rcases q with q | q; (· revert q; decide); exact hm q)]
        show Calls _ _ _ _ fun e w' => TPost w (Ln.put _ 1 (Ln.takeW B (Ln.much m B.x.length)), B.x.take (Ln.much m B.x.length)) e w'
        have hM : min m ((⟨B.x.toArray⟩ : ByteArray).size : Int) = ((Ln.much m B.x.length : Nat) : Int) := by rw [ba_sz]; unfold Ln.much; omega
        have hh := rtake_some1 ⟨A.x.toArray⟩ (A.p : Int) b0 A.bad.length c0 g0 A.gap.length d0 ⟨B.x.toArray⟩ (B.p : Int) b1 B.bad.length c1 g1 B.gap.length d1 up m A.bad A.gap B.bad B.gap (Rg.hid rfl) (Rg.hid rfl) (Rg.hid rfl) (Rg.hid rfl) (by omega) (by omega) (by omega) (by omega) w ⟨h1, h2, h3, h4, h5, h6, h7, h8⟩ _ (by omega) hM (by rw [ba_sz]; omega) (by omega) (by omega)
        rw [ba_ex1, ba_ex2] at hh
        exact (hh).mono fun _ _ q => q.t ⟨A, Ln.takeW B (Ln.much m B.x.length), _⟩
    · rw [if_pos (.inl (by simp [Ln.nway, n0, n1]))]
      exact (rtake_bad ⟨A.x.toArray⟩ (A.p : Int) b0 A.bad.length c0 g0 A.gap.length d0 ⟨B.x.toArray⟩ (B.p : Int) b1 B.bad.length c1 g1 B.gap.length d1 up n m A.bad A.gap B.bad B.gap (Rg.hid rfl) (Rg.hid rfl) (Rg.hid rfl) (Rg.hid rfl) (by omega) (by omega) (by omega) (by omega) w ⟨h1, h2, h3, h4, h5, h6, h7, h8⟩ n0 n1).mono fun _ _ q => q.t ⟨A, B, _⟩
theorem rlose_at (v : Value) (L : Ln.Li) (n m : Int) (N : Nat) (w : World) (hL : Ln.LOk N L) (hN : N ≤ 1000000) (h : LAt w v L) : Calls Try.prog 28 #[v, .int .i64 n, .int .i64 m] w fun e w' => EPost w (Ln.lose L n m) e w' := by
  obtain ⟨b0, c0, g0, d0, b1, c1, g1, d1, rfl, h1, h2, h3, h4, h5, h6, h7, h8⟩ := h
  have fa := hL.a.full
  have fb := hL.b.full
  have sa := hL.a.size
  have sb := hL.b.size
  have lba := hL.a.lbad
  have lga := hL.a.lgap
  have lbb := hL.b.lbad
  have lgb := hL.b.lgap
  have hA := hL.a
  have hB := hL.b
  obtain ⟨A, B, up⟩ := L
  dsimp only at *
  unfold Ln.lose
  by_cases n0 : n = 0
  · subst n0
    cases up
    · rw [if_neg (by simp [Ln.there])]
      exact (rlose_down0 ⟨A.x.toArray⟩ (A.p : Int) b0 A.bad.length c0 g0 A.gap.length d0 ⟨B.x.toArray⟩ (B.p : Int) b1 B.bad.length c1 g1 B.gap.length d1 m A.bad A.gap B.bad B.gap (Rg.hid rfl) (Rg.hid rfl) (Rg.hid rfl) (Rg.hid rfl) (by omega) (by omega) (by omega) (by omega) w ⟨h1, h2, h3, h4, h5, h6, h7, h8⟩).mono fun _ _ q => q.e ⟨A, B, _⟩
    · by_cases ht : 0 ≤ m ∧ m < ((A.x.length : Nat) : Int)
      · rw [if_pos (by simp [Ln.there, Ln.nway, Ln.way]; omega)]
        obtain ⟨k, rfl⟩ : ∃ k : Nat, m = (k : Int) := ⟨m.toNat, by omega⟩
        rw [Int.toNat_natCast]
        have hh := rlose_ok0 ⟨A.x.toArray⟩ (A.p : Int) b0 A.bad.length c0 g0 A.gap.length d0 ⟨B.x.toArray⟩ (B.p : Int) b1 B.bad.length c1 g1 B.gap.length d1 A.bad A.gap B.bad B.gap (Rg.hid rfl) (Rg.hid rfl) (Rg.hid rfl) (Rg.hid rfl) (by omega) (by omega) (by omega) (by omega) w ⟨h1, h2, h3, h4, h5, h6, h7, h8⟩ k (k + 1) ((A.p : Int) + (k : Int)) _ _ (by show IntKind.i64.wrap _ = _; rw [IntKind.wrap_i64]; omega) (by show IntKind.i64.wrap _ = _; rw [IntKind.wrap_i64]; omega) (by show (_ : Int) < _; rw [ba_sz]; omega) (by show (_ : Int) ≤ _; rw [ba_sz]; omega) (Rg.hid (ba_ex1 _ _)) (Rg.hid (ba_ex2 _ _)) (by show ¬ _ < _; rw [ba_sz, ba_sz, List.length_take, List.length_drop]; omega) _ _ (Rg.hid (Ln.lose_bad_ref hA.ub _)) (Rg.hid (Ln.lose_gap_ref hA.ug _)) (fun y hy => by have := hA.bb y hy; omega) (fun y hy => by have := hA.bg y hy; omega)
        rw [ba_two] at hh
        exact (hh).mono fun _ _ q => q.e ⟨Ln.loseW A k, B, _⟩
      · rw [if_neg (by simp [Ln.there, Ln.nway, Ln.way]; omega)]
        exact (rlose_none0 ⟨A.x.toArray⟩ (A.p : Int) b0 A.bad.length c0 g0 A.gap.length d0 ⟨B.x.toArray⟩ (B.p : Int) b1 B.bad.length c1 g1 B.gap.length d1 m A.bad A.gap B.bad B.gap (Rg.hid rfl) (Rg.hid rfl) (Rg.hid rfl) (Rg.hid rfl) (by omega) (by omega) (by omega) (by omega) w ⟨h1, h2, h3, h4, h5, h6, h7, h8⟩ (by rw [ba_sz]; exact ht)).mono fun _ _ q => q.e ⟨A, B, _⟩
  · by_cases n1 : n = 1
    · subst n1
      cases up
      · rw [if_neg (by simp [Ln.there])]
        exact (rlose_down1 ⟨A.x.toArray⟩ (A.p : Int) b0 A.bad.length c0 g0 A.gap.length d0 ⟨B.x.toArray⟩ (B.p : Int) b1 B.bad.length c1 g1 B.gap.length d1 m A.bad A.gap B.bad B.gap (Rg.hid rfl) (Rg.hid rfl) (Rg.hid rfl) (Rg.hid rfl) (by omega) (by omega) (by omega) (by omega) w ⟨h1, h2, h3, h4, h5, h6, h7, h8⟩).mono fun _ _ q => q.e ⟨A, B, _⟩
      · by_cases ht : 0 ≤ m ∧ m < ((B.x.length : Nat) : Int)
        · rw [if_pos (by simp [Ln.there, Ln.nway, Ln.way]; omega)]
          obtain ⟨k, rfl⟩ : ∃ k : Nat, m = (k : Int) := ⟨m.toNat, by omega⟩
          rw [Int.toNat_natCast]
          have hh := rlose_ok1 ⟨A.x.toArray⟩ (A.p : Int) b0 A.bad.length c0 g0 A.gap.length d0 ⟨B.x.toArray⟩ (B.p : Int) b1 B.bad.length c1 g1 B.gap.length d1 A.bad A.gap B.bad B.gap (Rg.hid rfl) (Rg.hid rfl) (Rg.hid rfl) (Rg.hid rfl) (by omega) (by omega) (by omega) (by omega) w ⟨h1, h2, h3, h4, h5, h6, h7, h8⟩ k (k + 1) ((B.p : Int) + (k : Int)) _ _ (by show IntKind.i64.wrap _ = _; rw [IntKind.wrap_i64]; omega) (by show IntKind.i64.wrap _ = _; rw [IntKind.wrap_i64]; omega) (by show (_ : Int) < _; rw [ba_sz]; omega) (by show (_ : Int) ≤ _; rw [ba_sz]; omega) (Rg.hid (ba_ex1 _ _)) (Rg.hid (ba_ex2 _ _)) (by show ¬ _ < _; rw [ba_sz, ba_sz, List.length_take, List.length_drop]; omega) _ _ (Rg.hid (Ln.lose_bad_ref hB.ub _)) (Rg.hid (Ln.lose_gap_ref hB.ug _)) (fun y hy => by have := hB.bb y hy; omega) (fun y hy => by have := hB.bg y hy; omega)
          rw [ba_two] at hh
          exact (hh).mono fun _ _ q => q.e ⟨A, Ln.loseW B k, _⟩
        · rw [if_neg (by simp [Ln.there, Ln.nway, Ln.way]; omega)]
          exact (rlose_none1 ⟨A.x.toArray⟩ (A.p : Int) b0 A.bad.length c0 g0 A.gap.length d0 ⟨B.x.toArray⟩ (B.p : Int) b1 B.bad.length c1 g1 B.gap.length d1 m A.bad A.gap B.bad B.gap (Rg.hid rfl) (Rg.hid rfl) (Rg.hid rfl) (Rg.hid rfl) (by omega) (by omega) (by omega) (by omega) w ⟨h1, h2, h3, h4, h5, h6, h7, h8⟩ (by rw [ba_sz]; exact ht)).mono fun _ _ q => q.e ⟨A, B, _⟩
    · rw [if_neg (by simp [Ln.there, Ln.nway, n0, n1])]
      exact (rlose_bad ⟨A.x.toArray⟩ (A.p : Int) b0 A.bad.length c0 g0 A.gap.length d0 ⟨B.x.toArray⟩ (B.p : Int) b1 B.bad.length c1 g1 B.gap.length d1 up n m A.bad A.gap B.bad B.gap (Rg.hid rfl) (Rg.hid rfl) (Rg.hid rfl) (Rg.hid rfl) (by omega) (by omega) (by omega) (by omega) w ⟨h1, h2, h3, h4, h5, h6, h7, h8⟩ n0 n1).mono fun _ _ q => q.e ⟨A, B, _⟩
theorem rflip_at (v : Value) (L : Ln.Li) (n m bit : Int) (N : Nat) (w : World) (hL : Ln.LOk N L) (hN : N ≤ 1000000) (h : LAt w v L) : Calls Try.prog 27 #[v, .int .i64 n, .int .i64 m, .int .i64 bit] w fun e w' => EPost w (Ln.flip L n m bit) e w' := by
  obtain ⟨b0, c0, g0, d0, b1, c1, g1, d1, rfl, h1, h2, h3, h4, h5, h6, h7, h8⟩ := h
  have fa := hL.a.full
  have fb := hL.b.full
  have sa := hL.a.size
  have sb := hL.b.size
  have lba := hL.a.lbad
  have lga := hL.a.lgap
  have lbb := hL.b.lbad
  have lgb := hL.b.lgap
  have hA := hL.a
  have hB := hL.b
  obtain ⟨A, B, up⟩ := L
  dsimp only at *
  unfold Ln.flip
  by_cases n0 : n = 0
  · subst n0
    cases up
    · rw [if_neg (by simp [Ln.there])]
      exact (rflip_down0 ⟨A.x.toArray⟩ (A.p : Int) b0 A.bad.length c0 g0 A.gap.length d0 ⟨B.x.toArray⟩ (B.p : Int) b1 B.bad.length c1 g1 B.gap.length d1 m bit A.bad A.gap B.bad B.gap (Rg.hid rfl) (Rg.hid rfl) (Rg.hid rfl) (Rg.hid rfl) (by omega) (by omega) (by omega) (by omega) w ⟨h1, h2, h3, h4, h5, h6, h7, h8⟩).mono fun _ _ q => q.e ⟨A, B, _⟩
    · by_cases ht : 0 ≤ m ∧ m < ((A.x.length : Nat) : Int)
      · rw [if_pos (by simp [Ln.there, Ln.nway, Ln.way]; omega)]
        obtain ⟨k, rfl⟩ : ∃ k : Nat, m = (k : Int) := ⟨m.toNat, by omega⟩
        rw [Int.toNat_natCast]
        have hk : k < (⟨A.x.toArray⟩ : ByteArray).size := by rw [ba_sz]; omega
        have hg : (Ln.way ⟨A, B, true⟩ 0).x.getD k 0 = (⟨A.x.toArray⟩ : ByteArray)[k]'hk := by
          show A.x.getD k 0 = A.x.toArray[k]'(by simp; omega)
          rw [List.getElem_toArray, List.getD_eq_getElem?_getD, List.getElem?_eq_getElem (by omega), Option.getD_some]
        rw [hg]
        have hh := rflip_ok0 ⟨A.x.toArray⟩ (A.p : Int) b0 A.bad.length c0 g0 A.gap.length d0 ⟨B.x.toArray⟩ (B.p : Int) b1 B.bad.length c1 g1 B.gap.length d1 A.bad A.gap B.bad B.gap (Rg.hid rfl) (Rg.hid rfl) (Rg.hid rfl) (Rg.hid rfl) (by omega) (by omega) (by omega) (by omega) w ⟨h1, h2, h3, h4, h5, h6, h7, h8⟩ k bit hk ((A.p : Int) + (k : Int)) _ (Ln.turn ((⟨A.x.toArray⟩ : ByteArray)[k]'hk) bit) _ _ (by show IntKind.i64.wrap _ = _; rw [IntKind.wrap_i64]; omega) (fun W => shl_run bit W) (by show bits _ _ _ _ = _; rw [Bit.xor_u8 _ _ (UInt8.toNat_lt _) (Ln.two_lt (Ln.bitOf_lt bit)), Ln.turn_toNat]) (Rg.hid rfl) (Rg.hid rfl) hA.ub
        exact (hh).mono fun _ _ q => q.e ⟨Ln.flipW A k (Ln.turn ((⟨A.x.toArray⟩ : ByteArray)[k]) bit), B, _⟩
      · rw [if_neg (by simp [Ln.there, Ln.nway, Ln.way]; omega)]
        exact (rflip_none0 ⟨A.x.toArray⟩ (A.p : Int) b0 A.bad.length c0 g0 A.gap.length d0 ⟨B.x.toArray⟩ (B.p : Int) b1 B.bad.length c1 g1 B.gap.length d1 m bit A.bad A.gap B.bad B.gap (Rg.hid rfl) (Rg.hid rfl) (Rg.hid rfl) (Rg.hid rfl) (by omega) (by omega) (by omega) (by omega) w ⟨h1, h2, h3, h4, h5, h6, h7, h8⟩ (by rw [ba_sz]; exact ht)).mono fun _ _ q => q.e ⟨A, B, _⟩
  · by_cases n1 : n = 1
    · subst n1
      cases up
      · rw [if_neg (by simp [Ln.there])]
        exact (rflip_down1 ⟨A.x.toArray⟩ (A.p : Int) b0 A.bad.length c0 g0 A.gap.length d0 ⟨B.x.toArray⟩ (B.p : Int) b1 B.bad.length c1 g1 B.gap.length d1 m bit A.bad A.gap B.bad B.gap (Rg.hid rfl) (Rg.hid rfl) (Rg.hid rfl) (Rg.hid rfl) (by omega) (by omega) (by omega) (by omega) w ⟨h1, h2, h3, h4, h5, h6, h7, h8⟩).mono fun _ _ q => q.e ⟨A, B, _⟩
      · by_cases ht : 0 ≤ m ∧ m < ((B.x.length : Nat) : Int)
        · rw [if_pos (by simp [Ln.there, Ln.nway, Ln.way]; omega)]
          obtain ⟨k, rfl⟩ : ∃ k : Nat, m = (k : Int) := ⟨m.toNat, by omega⟩
          rw [Int.toNat_natCast]
          have hk : k < (⟨B.x.toArray⟩ : ByteArray).size := by rw [ba_sz]; omega
          have hg : (Ln.way ⟨A, B, true⟩ 1).x.getD k 0 = (⟨B.x.toArray⟩ : ByteArray)[k]'hk := by
            show B.x.getD k 0 = B.x.toArray[k]'(by simp; omega)
            rw [List.getElem_toArray, List.getD_eq_getElem?_getD, List.getElem?_eq_getElem (by omega), Option.getD_some]
          rw [hg]
          have hh := rflip_ok1 ⟨A.x.toArray⟩ (A.p : Int) b0 A.bad.length c0 g0 A.gap.length d0 ⟨B.x.toArray⟩ (B.p : Int) b1 B.bad.length c1 g1 B.gap.length d1 A.bad A.gap B.bad B.gap (Rg.hid rfl) (Rg.hid rfl) (Rg.hid rfl) (Rg.hid rfl) (by omega) (by omega) (by omega) (by omega) w ⟨h1, h2, h3, h4, h5, h6, h7, h8⟩ k bit hk ((B.p : Int) + (k : Int)) _ (Ln.turn ((⟨B.x.toArray⟩ : ByteArray)[k]'hk) bit) _ _ (by show IntKind.i64.wrap _ = _; rw [IntKind.wrap_i64]; omega) (fun W => shl_run bit W) (by show bits _ _ _ _ = _; rw [Bit.xor_u8 _ _ (UInt8.toNat_lt _) (Ln.two_lt (Ln.bitOf_lt bit)), Ln.turn_toNat]) (Rg.hid rfl) (Rg.hid rfl) hB.ub
          exact (hh).mono fun _ _ q => q.e ⟨A, Ln.flipW B k (Ln.turn ((⟨B.x.toArray⟩ : ByteArray)[k]) bit), _⟩
        · rw [if_neg (by simp [Ln.there, Ln.nway, Ln.way]; omega)]
          exact (rflip_none1 ⟨A.x.toArray⟩ (A.p : Int) b0 A.bad.length c0 g0 A.gap.length d0 ⟨B.x.toArray⟩ (B.p : Int) b1 B.bad.length c1 g1 B.gap.length d1 m bit A.bad A.gap B.bad B.gap (Rg.hid rfl) (Rg.hid rfl) (Rg.hid rfl) (Rg.hid rfl) (by omega) (by omega) (by omega) (by omega) w ⟨h1, h2, h3, h4, h5, h6, h7, h8⟩ (by rw [ba_sz]; exact ht)).mono fun _ _ q => q.e ⟨A, B, _⟩
    · rw [if_neg (by simp [Ln.there, Ln.nway, n0, n1])]
      exact (rflip_bad ⟨A.x.toArray⟩ (A.p : Int) b0 A.bad.length c0 g0 A.gap.length d0 ⟨B.x.toArray⟩ (B.p : Int) b1 B.bad.length c1 g1 B.gap.length d1 up n m bit A.bad A.gap B.bad B.gap (Rg.hid rfl) (Rg.hid rfl) (Rg.hid rfl) (Rg.hid rfl) (by omega) (by omega) (by omega) (by omega) w ⟨h1, h2, h3, h4, h5, h6, h7, h8⟩ n0 n1).mono fun _ _ q => q.e ⟨A, B, _⟩
theorem radd_at (v : Value) (L : Ln.Li) (n m : Int) (c : UInt8) (N : Nat) (w : World) (hL : Ln.LOk N L) (hN : N ≤ 1000000) (h : LAt w v L) : Calls Try.prog 29 #[v, .int .i64 n, .int .i64 m, .int .u8 (c.toNat : Int)] w fun e w' => EPost w (Ln.add L n m c) e w' := by
  obtain ⟨b0, c0, g0, d0, b1, c1, g1, d1, rfl, h1, h2, h3, h4, h5, h6, h7, h8⟩ := h
  have fa := hL.a.full
  have fb := hL.b.full
  have sa := hL.a.size
  have sb := hL.b.size
  have lba := hL.a.lbad
  have lga := hL.a.lgap
  have lbb := hL.b.lbad
  have lgb := hL.b.lgap
  have hA := hL.a
  have hB := hL.b
  obtain ⟨A, B, up⟩ := L
  dsimp only at *
  unfold Ln.add
  by_cases n0 : n = 0
  · subst n0
    cases up
    · rw [if_neg (by simp)]
      exact (radd_down0 ⟨A.x.toArray⟩ (A.p : Int) b0 A.bad.length c0 g0 A.gap.length d0 ⟨B.x.toArray⟩ (B.p : Int) b1 B.bad.length c1 g1 B.gap.length d1 m (c.toNat : Int) A.bad A.gap B.bad B.gap (Rg.hid rfl) (Rg.hid rfl) (Rg.hid rfl) (Rg.hid rfl) (by omega) (by omega) (by omega) (by omega) w ⟨h1, h2, h3, h4, h5, h6, h7, h8⟩).mono fun _ _ q => q.e ⟨A, B, _⟩
    · by_cases ht : 0 ≤ m ∧ m ≤ ((A.x.length : Nat) : Int)
      · rw [if_pos (by simp [Ln.nway, Ln.way]; omega)]
        obtain ⟨k, rfl⟩ : ∃ k : Nat, m = (k : Int) := ⟨m.toNat, by omega⟩
        rw [Int.toNat_natCast]
        show Calls _ _ _ _ fun e w' => EPost w (if 40000 ≤ A.x.length then _ else _) e w'
        by_cases hf : 40000 ≤ A.x.length
        · rw [if_pos hf]
          exact (radd_full0 ⟨A.x.toArray⟩ (A.p : Int) b0 A.bad.length c0 g0 A.gap.length d0 ⟨B.x.toArray⟩ (B.p : Int) b1 B.bad.length c1 g1 B.gap.length d1 k (c.toNat : Int) A.bad A.gap B.bad B.gap (Rg.hid rfl) (Rg.hid rfl) (Rg.hid rfl) (Rg.hid rfl) (by omega) (by omega) (by omega) (by omega) w ⟨h1, h2, h3, h4, h5, h6, h7, h8⟩ (by omega) (by rw [ba_sz]; omega) (by rw [ba_sz]; exact hf)).mono fun _ _ q => q.e ⟨A, B, _⟩
        · rw [if_neg hf]
          have hh := radd_ok0 ⟨A.x.toArray⟩ (A.p : Int) b0 A.bad.length c0 g0 A.gap.length d0 ⟨B.x.toArray⟩ (B.p : Int) b1 B.bad.length c1 g1 B.gap.length d1 A.bad A.gap B.bad B.gap (Rg.hid rfl) (Rg.hid rfl) (Rg.hid rfl) (Rg.hid rfl) (by omega) (by omega) (by omega) (by omega) w ⟨h1, h2, h3, h4, h5, h6, h7, h8⟩ k c ((A.p : Int) + (k : Int)) _ _ _ _ (by show IntKind.i64.wrap _ = _; rw [IntKind.wrap_i64]; omega) (by show (_ : Int) ≤ _; rw [ba_sz]; omega) (by show _ < _; rw [ba_sz]; omega) (Rg.hid (ba_ex1 _ _)) (Rg.hid (ba_ex2 _ _)) (Rg.hid rfl) (Rg.hid (ba_two _ _)) (by show ¬ _ < _; rw [ba_sz, ba_sz, List.length_take, List.length_singleton]; omega) (by show ¬ _ < _; rw [ba_sz, ba_sz, List.length_append, List.length_take, List.length_drop, List.length_singleton]; omega) _ _ (Rg.hid (Ln.add_bad_ref hA.ub _)) (Rg.hid (Ln.add_gap_ref hA.ug _)) hA.ub (fun y hy => by have := hA.bb y hy; omega) (fun y hy => by have := hA.bg y hy; omega)
          rw [ba_two] at hh
          exact (hh).mono fun _ _ q => q.e ⟨Ln.addW A k c, B, _⟩
      · rw [if_neg (by simp [Ln.nway, Ln.way]; omega)]
        by_cases hm : m < 0
        · exact (radd_low0 ⟨A.x.toArray⟩ (A.p : Int) b0 A.bad.length c0 g0 A.gap.length d0 ⟨B.x.toArray⟩ (B.p : Int) b1 B.bad.length c1 g1 B.gap.length d1 m (c.toNat : Int) A.bad A.gap B.bad B.gap (Rg.hid rfl) (Rg.hid rfl) (Rg.hid rfl) (Rg.hid rfl) (by omega) (by omega) (by omega) (by omega) w ⟨h1, h2, h3, h4, h5, h6, h7, h8⟩ hm).mono fun _ _ q => q.e ⟨A, B, _⟩
        · exact (radd_high0 ⟨A.x.toArray⟩ (A.p : Int) b0 A.bad.length c0 g0 A.gap.length d0 ⟨B.x.toArray⟩ (B.p : Int) b1 B.bad.length c1 g1 B.gap.length d1 m (c.toNat : Int) A.bad A.gap B.bad B.gap (Rg.hid rfl) (Rg.hid rfl) (Rg.hid rfl) (Rg.hid rfl) (by omega) (by omega) (by omega) (by omega) w ⟨h1, h2, h3, h4, h5, h6, h7, h8⟩ (by omega) (by rw [ba_sz]; omega)).mono fun _ _ q => q.e ⟨A, B, _⟩
  · by_cases n1 : n = 1
    · subst n1
      cases up
      · rw [if_neg (by simp)]
        exact (radd_down1 ⟨A.x.toArray⟩ (A.p : Int) b0 A.bad.length c0 g0 A.gap.length d0 ⟨B.x.toArray⟩ (B.p : Int) b1 B.bad.length c1 g1 B.gap.length d1 m (c.toNat : Int) A.bad A.gap B.bad B.gap (Rg.hid rfl) (Rg.hid rfl) (Rg.hid rfl) (Rg.hid rfl) (by omega) (by omega) (by omega) (by omega) w ⟨h1, h2, h3, h4, h5, h6, h7, h8⟩).mono fun _ _ q => q.e ⟨A, B, _⟩
      · by_cases ht : 0 ≤ m ∧ m ≤ ((B.x.length : Nat) : Int)
        · rw [if_pos (by simp [Ln.nway, Ln.way]; omega)]
          obtain ⟨k, rfl⟩ : ∃ k : Nat, m = (k : Int) := ⟨m.toNat, by omega⟩
          rw [Int.toNat_natCast]
          show Calls _ _ _ _ fun e w' => EPost w (if 40000 ≤ B.x.length then _ else _) e w'
          by_cases hf : 40000 ≤ B.x.length
          · rw [if_pos hf]
            exact (radd_full1 ⟨A.x.toArray⟩ (A.p : Int) b0 A.bad.length c0 g0 A.gap.length d0 ⟨B.x.toArray⟩ (B.p : Int) b1 B.bad.length c1 g1 B.gap.length d1 k (c.toNat : Int) A.bad A.gap B.bad B.gap (Rg.hid rfl) (Rg.hid rfl) (Rg.hid rfl) (Rg.hid rfl) (by omega) (by omega) (by omega) (by omega) w ⟨h1, h2, h3, h4, h5, h6, h7, h8⟩ (by omega) (by rw [ba_sz]; omega) (by rw [ba_sz]; exact hf)).mono fun _ _ q => q.e ⟨A, B, _⟩
          · rw [if_neg hf]
            have hh := radd_ok1 ⟨A.x.toArray⟩ (A.p : Int) b0 A.bad.length c0 g0 A.gap.length d0 ⟨B.x.toArray⟩ (B.p : Int) b1 B.bad.length c1 g1 B.gap.length d1 A.bad A.gap B.bad B.gap (Rg.hid rfl) (Rg.hid rfl) (Rg.hid rfl) (Rg.hid rfl) (by omega) (by omega) (by omega) (by omega) w ⟨h1, h2, h3, h4, h5, h6, h7, h8⟩ k c ((B.p : Int) + (k : Int)) _ _ _ _ (by show IntKind.i64.wrap _ = _; rw [IntKind.wrap_i64]; omega) (by show (_ : Int) ≤ _; rw [ba_sz]; omega) (by show _ < _; rw [ba_sz]; omega) (Rg.hid (ba_ex1 _ _)) (Rg.hid (ba_ex2 _ _)) (Rg.hid rfl) (Rg.hid (ba_two _ _)) (by show ¬ _ < _; rw [ba_sz, ba_sz, List.length_take, List.length_singleton]; omega) (by show ¬ _ < _; rw [ba_sz, ba_sz, List.length_append, List.length_take, List.length_drop, List.length_singleton]; omega) _ _ (Rg.hid (Ln.add_bad_ref hB.ub _)) (Rg.hid (Ln.add_gap_ref hB.ug _)) hB.ub (fun y hy => by have := hB.bb y hy; omega) (fun y hy => by have := hB.bg y hy; omega)
            rw [ba_two] at hh
            exact (hh).mono fun _ _ q => q.e ⟨A, Ln.addW B k c, _⟩
        · rw [if_neg (by simp [Ln.nway, Ln.way]; omega)]
          by_cases hm : m < 0
          · exact (radd_low1 ⟨A.x.toArray⟩ (A.p : Int) b0 A.bad.length c0 g0 A.gap.length d0 ⟨B.x.toArray⟩ (B.p : Int) b1 B.bad.length c1 g1 B.gap.length d1 m (c.toNat : Int) A.bad A.gap B.bad B.gap (Rg.hid rfl) (Rg.hid rfl) (Rg.hid rfl) (Rg.hid rfl) (by omega) (by omega) (by omega) (by omega) w ⟨h1, h2, h3, h4, h5, h6, h7, h8⟩ hm).mono fun _ _ q => q.e ⟨A, B, _⟩
          · exact (radd_high1 ⟨A.x.toArray⟩ (A.p : Int) b0 A.bad.length c0 g0 A.gap.length d0 ⟨B.x.toArray⟩ (B.p : Int) b1 B.bad.length c1 g1 B.gap.length d1 m (c.toNat : Int) A.bad A.gap B.bad B.gap (Rg.hid rfl) (Rg.hid rfl) (Rg.hid rfl) (Rg.hid rfl) (by omega) (by omega) (by omega) (by omega) w ⟨h1, h2, h3, h4, h5, h6, h7, h8⟩ (by omega) (by rw [ba_sz]; omega)).mono fun _ _ q => q.e ⟨A, B, _⟩
    · rw [if_neg (by simp [Ln.nway, n0, n1])]
      exact (radd_bad ⟨A.x.toArray⟩ (A.p : Int) b0 A.bad.length c0 g0 A.gap.length d0 ⟨B.x.toArray⟩ (B.p : Int) b1 B.bad.length c1 g1 B.gap.length d1 up n m (c.toNat : Int) A.bad A.gap B.bad B.gap (Rg.hid rfl) (Rg.hid rfl) (Rg.hid rfl) (Rg.hid rfl) (by omega) (by omega) (by omega) (by omega) w ⟨h1, h2, h3, h4, h5, h6, h7, h8⟩ n0 n1).mono fun _ _ q => q.e ⟨A, B, _⟩
end Go.Proofs.Ytalleocmnnnchaa
