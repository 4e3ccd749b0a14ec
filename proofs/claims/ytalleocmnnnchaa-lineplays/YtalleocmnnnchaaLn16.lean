/-
  Layer 7: a line in memory; Lose, Flip and Add.
-/
import Derived.Test.YtalleocmnnnchaaLn15
namespace Go.Proofs.Ytalleocmnnnchaa
open Go.RowKit

theorem llose_at (v : Value) (L : Ln.Li) (n m : Int) (N : Nat) (w : World) (hL : Ln.LOk N L) (hN : N ≤ 1000000) (h : LAt w v L) : Calls Try.prog 21 #[v, .int .i64 n, .int .i64 m] w fun e w' => EPost w (Ln.lose L n m) e w' := by
  have h0 := h
  obtain ⟨b0, c0, g0, d0, b1, c1, g1, d1, rfl, h1, h2, h3, h4, h5, h6, h7, h8⟩ := h
  have fa := hL.a.full
  have fb := hL.b.full
  have sa := hL.a.size
  have sb := hL.b.size
  have lba := hL.a.lbad
  have lga := hL.a.lgap
  have lbb := hL.b.lbad
  have lgb := hL.b.lgap
  have hA := hL.a
  have hB := hL.b
  obtain ⟨A, B, up⟩ := L
  dsimp only at *
  unfold Ln.lose
  by_cases n0 : n = 0
  · subst n0
    cases up
    · rw [if_neg (by simp [Ln.there])]
      exact (llose_down0 ⟨A.x.toArray⟩ (A.p : Int) b0 A.bad.length c0 g0 A.gap.length d0 ⟨B.x.toArray⟩ (B.p : Int) b1 B.bad.length c1 g1 B.gap.length d1 m w).mono fun _ _ ⟨q1, q2⟩ => ⟨_, q1, h0.below q2, q2⟩
    · by_cases ht : 0 ≤ m ∧ m < ((A.x.length : Nat) : Int)
      · rw [if_pos (by simp [Ln.there, Ln.nway, Ln.way]; omega)]
        obtain ⟨k, rfl⟩ : ∃ k : Nat, m = (k : Int) := ⟨m.toNat, by omega⟩
        rw [Int.toNat_natCast]
        have hh := llose_ok0 ⟨A.x.toArray⟩ (A.p : Int) b0 A.bad.length c0 g0 A.gap.length d0 ⟨B.x.toArray⟩ (B.p : Int) b1 B.bad.length c1 g1 B.gap.length d1 k A.bad A.gap w (by rw [ba_sz]; omega) (by rw [ba_sz]; omega) (by omega) (by omega) rfl rfl (by omega) (by omega) (fun y hy => by have := hA.bb y hy; omega) (fun y hy => by have := hA.bg y hy; omega) hA.ub hA.ug h1 h3
        exact hh.mono fun _ _ ⟨ba, bc, ga, gc, q1, q2, q3, q4, q5, q6⟩ => ⟨_, q1, ⟨ba, bc, ga, gc, b1, c1, g1, d1, rfl, q2, q4, q3, q5, h5.below q6, h6, h7.below q6, h8⟩, q6⟩
      · rw [if_neg (by simp [Ln.there, Ln.nway, Ln.way]; omega)]
        exact (llose_none0 ⟨A.x.toArray⟩ (A.p : Int) b0 A.bad.length c0 g0 A.gap.length d0 ⟨B.x.toArray⟩ (B.p : Int) b1 B.bad.length c1 g1 B.gap.length d1 m w (by rw [ba_sz]; exact ht)).mono fun _ _ ⟨q1, q2⟩ => ⟨_, q1, h0.below q2, q2⟩
  · by_cases n1 : n = 1
    · subst n1
      cases up
      · rw [if_neg (by simp [Ln.there])]
        exact (llose_down1 ⟨A.x.toArray⟩ (A.p : Int) b0 A.bad.length c0 g0 A.gap.length d0 ⟨B.x.toArray⟩ (B.p : Int) b1 B.bad.length c1 g1 B.gap.length d1 m w).mono fun _ _ ⟨q1, q2⟩ => ⟨_, q1, h0.below q2, q2⟩
      · by_cases ht : 0 ≤ m ∧ m < ((B.x.length : Nat) : Int)
        · rw [if_pos (by simp [Ln.there, Ln.nway, Ln.way]; omega)]
          obtain ⟨k, rfl⟩ : ∃ k : Nat, m = (k : Int) := ⟨m.toNat, by omega⟩
          rw [Int.toNat_natCast]
          have hh := llose_ok1 ⟨A.x.toArray⟩ (A.p : Int) b0 A.bad.length c0 g0 A.gap.length d0 ⟨B.x.toArray⟩ (B.p : Int) b1 B.bad.length c1 g1 B.gap.length d1 k B.bad B.gap w (by rw [ba_sz]; omega) (by rw [ba_sz]; omega) (by omega) (by omega) rfl rfl (by omega) (by omega) (fun y hy => by have := hB.bb y hy; omega) (fun y hy => by have := hB.bg y hy; omega) hB.ub hB.ug h5 h7
          exact hh.mono fun _ _ ⟨ba, bc, ga, gc, q1, q2, q3, q4, q5, q6⟩ => ⟨_, q1, ⟨b0, c0, g0, d0, ba, bc, ga, gc, rfl, h1.below q6, h2, h3.below q6, h4, q2, q4, q3, q5⟩, q6⟩
        · rw [if_neg (by simp [Ln.there, Ln.nway, Ln.way]; omega)]
          exact (llose_none1 ⟨A.x.toArray⟩ (A.p : Int) b0 A.bad.length c0 g0 A.gap.length d0 ⟨B.x.toArray⟩ (B.p : Int) b1 B.bad.length c1 g1 B.gap.length d1 m w (by rw [ba_sz]; exact ht)).mono fun _ _ ⟨q1, q2⟩ => ⟨_, q1, h0.below q2, q2⟩
    · rw [if_neg (by simp [Ln.there, Ln.nway, n0, n1])]
      exact (llose_bad ⟨A.x.toArray⟩ (A.p : Int) b0 A.bad.length c0 g0 A.gap.length d0 ⟨B.x.toArray⟩ (B.p : Int) b1 B.bad.length c1 g1 B.gap.length d1 up n m w n0 n1).mono fun _ _ ⟨q1, q2⟩ => ⟨_, q1, h0.below q2, q2⟩

theorem lflip_at (v : Value) (L : Ln.Li) (n m : Int) (bit : Int) (N : Nat) (w : World) (hL : Ln.LOk N L) (hN : N ≤ 1000000) (h : LAt w v L) : Calls Try.prog 22 #[v, .int .i64 n, .int .i64 m, .int .i64 bit] w fun e w' => EPost w (Ln.flip L n m bit) e w' := by
  have h0 := h
  obtain ⟨b0, c0, g0, d0, b1, c1, g1, d1, rfl, h1, h2, h3, h4, h5, h6, h7, h8⟩ := h
  have fa := hL.a.full
  have fb := hL.b.full
  have sa := hL.a.size
  have sb := hL.b.size
  have lba := hL.a.lbad
  have lga := hL.a.lgap
  have lbb := hL.b.lbad
  have lgb := hL.b.lgap
  have hA := hL.a
  have hB := hL.b
  obtain ⟨A, B, up⟩ := L
  dsimp only at *
  unfold Ln.flip
  by_cases n0 : n = 0
  · subst n0
    cases up
    · rw [if_neg (by simp [Ln.there])]
      exact (lflip_down0 ⟨A.x.toArray⟩ (A.p : Int) b0 A.bad.length c0 g0 A.gap.length d0 ⟨B.x.toArray⟩ (B.p : Int) b1 B.bad.length c1 g1 B.gap.length d1 m bit w).mono fun _ _ ⟨q1, q2⟩ => ⟨_, q1, h0.below q2, q2⟩
    · by_cases ht : 0 ≤ m ∧ m < ((A.x.length : Nat) : Int)
      · rw [if_pos (by simp [Ln.there, Ln.nway, Ln.way]; omega)]
        obtain ⟨k, rfl⟩ : ∃ k : Nat, m = (k : Int) := ⟨m.toNat, by omega⟩
        rw [Int.toNat_natCast]
        have hh := lflip_ok0 ⟨A.x.toArray⟩ (A.p : Int) b0 A.bad.length c0 g0 A.gap.length d0 ⟨B.x.toArray⟩ (B.p : Int) b1 B.bad.length c1 g1 B.gap.length d1 k bit A.bad w (by rw [ba_sz]; omega) (by rw [ba_sz]; omega) (by omega) (by omega) rfl (by omega) h2 hA.ub h1
        have hg : (Ln.way ⟨A, B, true⟩ 0).x.getD k 0 = (⟨A.x.toArray⟩ : ByteArray)[k]'(by rw [ba_sz]; omega) := by
          show A.x.getD k 0 = A.x.toArray[k]'(by simp; omega)
          rw [List.getElem_toArray, List.getD_eq_getElem?_getD, List.getElem?_eq_getElem (by omega), Option.getD_some]
        rw [hg]
        exact hh.mono fun _ _ ⟨ba, bc, q1, q2, q3, q6⟩ => ⟨_, q1, ⟨ba, bc, g0, d0, b1, c1, g1, d1, rfl, q2, q3, h3.below q6, h4, h5.below q6, h6, h7.below q6, h8⟩, q6⟩
      · rw [if_neg (by simp [Ln.there, Ln.nway, Ln.way]; omega)]
        exact (lflip_none0 ⟨A.x.toArray⟩ (A.p : Int) b0 A.bad.length c0 g0 A.gap.length d0 ⟨B.x.toArray⟩ (B.p : Int) b1 B.bad.length c1 g1 B.gap.length d1 m bit w (by rw [ba_sz]; exact ht)).mono fun _ _ ⟨q1, q2⟩ => ⟨_, q1, h0.below q2, q2⟩
  · by_cases n1 : n = 1
    · subst n1
      cases up
      · rw [if_neg (by simp [Ln.there])]
        exact (lflip_down1 ⟨A.x.toArray⟩ (A.p : Int) b0 A.bad.length c0 g0 A.gap.length d0 ⟨B.x.toArray⟩ (B.p : Int) b1 B.bad.length c1 g1 B.gap.length d1 m bit w).mono fun _ _ ⟨q1, q2⟩ => ⟨_, q1, h0.below q2, q2⟩
      · by_cases ht : 0 ≤ m ∧ m < ((B.x.length : Nat) : Int)
        · rw [if_pos (by simp [Ln.there, Ln.nway, Ln.way]; omega)]
          obtain ⟨k, rfl⟩ : ∃ k : Nat, m = (k : Int) := ⟨m.toNat, by omega⟩
          rw [Int.toNat_natCast]
          have hh := lflip_ok1 ⟨A.x.toArray⟩ (A.p : Int) b0 A.bad.length c0 g0 A.gap.length d0 ⟨B.x.toArray⟩ (B.p : Int) b1 B.bad.length c1 g1 B.gap.length d1 k bit B.bad w (by rw [ba_sz]; omega) (by rw [ba_sz]; omega) (by omega) (by omega) rfl (by omega) h6 hB.ub h5
          have hg : (Ln.way ⟨A, B, true⟩ 1).x.getD k 0 = (⟨B.x.toArray⟩ : ByteArray)[k]'(by rw [ba_sz]; omega) := by
            show B.x.getD k 0 = B.x.toArray[k]'(by simp; omega)
            rw [List.getElem_toArray, List.getD_eq_getElem?_getD, List.getElem?_eq_getElem (by omega), Option.getD_some]
          rw [hg]
          exact hh.mono fun _ _ ⟨ba, bc, q1, q2, q3, q6⟩ => ⟨_, q1, ⟨b0, c0, g0, d0, ba, bc, g1, d1, rfl, h1.below q6, h2, h3.below q6, h4, q2, q3, h7.below q6, h8⟩, q6⟩
        · rw [if_neg (by simp [Ln.there, Ln.nway, Ln.way]; omega)]
          exact (lflip_none1 ⟨A.x.toArray⟩ (A.p : Int) b0 A.bad.length c0 g0 A.gap.length d0 ⟨B.x.toArray⟩ (B.p : Int) b1 B.bad.length c1 g1 B.gap.length d1 m bit w (by rw [ba_sz]; exact ht)).mono fun _ _ ⟨q1, q2⟩ => ⟨_, q1, h0.below q2, q2⟩
    · rw [if_neg (by simp [Ln.there, Ln.nway, n0, n1])]
      exact (lflip_bad ⟨A.x.toArray⟩ (A.p : Int) b0 A.bad.length c0 g0 A.gap.length d0 ⟨B.x.toArray⟩ (B.p : Int) b1 B.bad.length c1 g1 B.gap.length d1 up n m bit w n0 n1).mono fun _ _ ⟨q1, q2⟩ => ⟨_, q1, h0.below q2, q2⟩

theorem ladd_at (v : Value) (L : Ln.Li) (n m : Int) (c : UInt8) (N : Nat) (w : World) (hL : Ln.LOk N L) (hN : N ≤ 1000000) (h : LAt w v L) : Calls Try.prog 23 #[v, .int .i64 n, .int .i64 m, .int .u8 (c.toNat : Int)] w fun e w' => EPost w (Ln.add L n m c) e w' := by
  have h0 := h
  obtain ⟨b0, c0, g0, d0, b1, c1, g1, d1, rfl, h1, h2, h3, h4, h5, h6, h7, h8⟩ := h
  have fa := hL.a.full
  have fb := hL.b.full
  have sa := hL.a.size
  have sb := hL.b.size
  have lba := hL.a.lbad
  have lga := hL.a.lgap
  have lbb := hL.b.lbad
  have lgb := hL.b.lgap
  have hA := hL.a
  have hB := hL.b
  obtain ⟨A, B, up⟩ := L
  dsimp only at *
  unfold Ln.add
  by_cases n0 : n = 0
  · subst n0
    cases up
    · rw [if_neg (by simp)]
      exact (ladd_down0 ⟨A.x.toArray⟩ (A.p : Int) b0 A.bad.length c0 g0 A.gap.length d0 ⟨B.x.toArray⟩ (B.p : Int) b1 B.bad.length c1 g1 B.gap.length d1 m (c.toNat : Int) w).mono fun _ _ ⟨q1, q2⟩ => ⟨_, q1, h0.below q2, q2⟩
    · by_cases ht : 0 ≤ m ∧ m ≤ ((A.x.length : Nat) : Int)
      · rw [if_pos (by simp [Ln.nway, Ln.way]; omega)]
        obtain ⟨k, rfl⟩ : ∃ k : Nat, m = (k : Int) := ⟨m.toNat, by omega⟩
        rw [Int.toNat_natCast]
        show Calls _ _ _ _ fun e w' => EPost w (if 40000 ≤ A.x.length then _ else _) e w'
        by_cases hf : 40000 ≤ A.x.length
        · rw [if_pos hf]
          by_cases hk : k < A.x.length
          · exact (ladd_fullmid0 ⟨A.x.toArray⟩ (A.p : Int) b0 A.bad.length c0 g0 A.gap.length d0 ⟨B.x.toArray⟩ (B.p : Int) b1 B.bad.length c1 g1 B.gap.length d1 k (c.toNat : Int) w (by rw [ba_sz]; exact hk) (by rw [ba_sz]; omega) (by rw [ba_sz]; exact hf)).mono fun _ _ ⟨q1, q2⟩ => ⟨_, q1, h0.below q2, q2⟩
          · exact (ladd_fullend0 ⟨A.x.toArray⟩ (A.p : Int) b0 A.bad.length c0 g0 A.gap.length d0 ⟨B.x.toArray⟩ (B.p : Int) b1 B.bad.length c1 g1 B.gap.length d1 k (c.toNat : Int) w (by rw [ba_sz]; omega) (by rw [ba_sz]; omega) (by rw [ba_sz]; omega) (by rw [ba_sz]; exact hf)).mono fun _ _ ⟨q1, q2⟩ => ⟨_, q1, h0.below q2, q2⟩
        · rw [if_neg hf]
          by_cases hk : k < A.x.length
          · exact (ladd_mid0 ⟨A.x.toArray⟩ (A.p : Int) b0 A.bad.length c0 g0 A.gap.length d0 ⟨B.x.toArray⟩ (B.p : Int) b1 B.bad.length c1 g1 B.gap.length d1 k c A.bad A.gap w (by rw [ba_sz]; exact hk) (by rw [ba_sz]; omega) (by omega) (by omega) rfl rfl (by omega) (by omega) (fun y hy => by have := hA.bb y hy; omega) (fun y hy => by have := hA.bg y hy; omega) hA.ub hA.ug h1 h3).mono fun _ _ ⟨ba, bc, ga, gc, q1, q2, q3, q4, q5, q6⟩ => ⟨_, q1, ⟨ba, bc, ga, gc, b1, c1, g1, d1, rfl, q2, q4, q3, q5, h5.below q6, h6, h7.below q6, h8⟩, q6⟩
          · exact (ladd_end0 ⟨A.x.toArray⟩ (A.p : Int) b0 A.bad.length c0 g0 A.gap.length d0 ⟨B.x.toArray⟩ (B.p : Int) b1 B.bad.length c1 g1 B.gap.length d1 k c A.bad A.gap w (by rw [ba_sz]; omega) (by rw [ba_sz]; omega) (by rw [ba_sz]; omega) (by omega) (by omega) rfl rfl (by omega) (by omega) (fun y hy => by have := hA.bb y hy; omega) (fun y hy => by have := hA.bg y hy; omega) hA.ub hA.ug h1 h3).mono fun _ _ ⟨ba, bc, ga, gc, q1, q2, q3, q4, q5, q6⟩ => ⟨_, q1, ⟨ba, bc, ga, gc, b1, c1, g1, d1, rfl, q2, q4, q3, q5, h5.below q6, h6, h7.below q6, h8⟩, q6⟩
      · rw [if_neg (by simp [Ln.nway, Ln.way]; omega)]
        exact (ladd_none0 ⟨A.x.toArray⟩ (A.p : Int) b0 A.bad.length c0 g0 A.gap.length d0 ⟨B.x.toArray⟩ (B.p : Int) b1 B.bad.length c1 g1 B.gap.length d1 m (c.toNat : Int) w (by rw [ba_sz]; omega) (by rw [ba_sz]; omega)).mono fun _ _ ⟨q1, q2⟩ => ⟨_, q1, h0.below q2, q2⟩
  · by_cases n1 : n = 1
    · subst n1
      cases up
      · rw [if_neg (by simp)]
        exact (ladd_down1 ⟨A.x.toArray⟩ (A.p : Int) b0 A.bad.length c0 g0 A.gap.length d0 ⟨B.x.toArray⟩ (B.p : Int) b1 B.bad.length c1 g1 B.gap.length d1 m (c.toNat : Int) w).mono fun _ _ ⟨q1, q2⟩ => ⟨_, q1, h0.below q2, q2⟩
      · by_cases ht : 0 ≤ m ∧ m ≤ ((B.x.length : Nat) : Int)
        · rw [if_pos (by simp [Ln.nway, Ln.way]; omega)]
          obtain ⟨k, rfl⟩ : ∃ k : Nat, m = (k : Int) := ⟨m.toNat, by omega⟩
          rw [Int.toNat_natCast]
          show Calls _ _ _ _ fun e w' => EPost w (if 40000 ≤ B.x.length then _ else _) e w'
          by_cases hf : 40000 ≤ B.x.length
          · rw [if_pos hf]
            by_cases hk : k < B.x.length
            · exact (ladd_fullmid1 ⟨A.x.toArray⟩ (A.p : Int) b0 A.bad.length c0 g0 A.gap.length d0 ⟨B.x.toArray⟩ (B.p : Int) b1 B.bad.length c1 g1 B.gap.length d1 k (c.toNat : Int) w (by rw [ba_sz]; exact hk) (by rw [ba_sz]; omega) (by rw [ba_sz]; exact hf)).mono fun _ _ ⟨q1, q2⟩ => ⟨_, q1, h0.below q2, q2⟩
            · exact (ladd_fullend1 ⟨A.x.toArray⟩ (A.p : Int) b0 A.bad.length c0 g0 A.gap.length d0 ⟨B.x.toArray⟩ (B.p : Int) b1 B.bad.length c1 g1 B.gap.length d1 k (c.toNat : Int) w (by rw [ba_sz]; omega) (by rw [ba_sz]; omega) (by rw [ba_sz]; omega) (by rw [ba_sz]; exact hf)).mono fun _ _ ⟨q1, q2⟩ => ⟨_, q1, h0.below q2, q2⟩
          · rw [if_neg hf]
            by_cases hk : k < B.x.length
            · exact (ladd_mid1 ⟨A.x.toArray⟩ (A.p : Int) b0 A.bad.length c0 g0 A.gap.length d0 ⟨B.x.toArray⟩ (B.p : Int) b1 B.bad.length c1 g1 B.gap.length d1 k c B.bad B.gap w (by rw [ba_sz]; exact hk) (by rw [ba_sz]; omega) (by omega) (by omega) rfl rfl (by omega) (by omega) (fun y hy => by have := hB.bb y hy; omega) (fun y hy => by have := hB.bg y hy; omega) hB.ub hB.ug h5 h7).mono fun _ _ ⟨ba, bc, ga, gc, q1, q2, q3, q4, q5, q6⟩ => ⟨_, q1, ⟨b0, c0, g0, d0, ba, bc, ga, gc, rfl, h1.below q6, h2, h3.below q6, h4, q2, q4, q3, q5⟩, q6⟩
            · exact (ladd_end1 ⟨A.x.toArray⟩ (A.p : Int) b0 A.bad.length c0 g0 A.gap.length d0 ⟨B.x.toArray⟩ (B.p : Int) b1 B.bad.length c1 g1 B.gap.length d1 k c B.bad B.gap w (by rw [ba_sz]; omega) (by rw [ba_sz]; omega) (by rw [ba_sz]; omega) (by omega) (by omega) rfl rfl (by omega) (by omega) (fun y hy => by have := hB.bb y hy; omega) (fun y hy => by have := hB.bg y hy; omega) hB.ub hB.ug h5 h7).mono fun _ _ ⟨ba, bc, ga, gc, q1, q2, q3, q4, q5, q6⟩ => ⟨_, q1, ⟨b0, c0, g0, d0, ba, bc, ga, gc, rfl, h1.below q6, h2, h3.below q6, h4, q2, q4, q3, q5⟩, q6⟩
        · rw [if_neg (by simp [Ln.nway, Ln.way]; omega)]
          exact (ladd_none1 ⟨A.x.toArray⟩ (A.p : Int) b0 A.bad.length c0 g0 A.gap.length d0 ⟨B.x.toArray⟩ (B.p : Int) b1 B.bad.length c1 g1 B.gap.length d1 m (c.toNat : Int) w (by rw [ba_sz]; omega) (by rw [ba_sz]; omega)).mono fun _ _ ⟨q1, q2⟩ => ⟨_, q1, h0.below q2, q2⟩
    · rw [if_neg (by simp [Ln.nway, n0, n1])]
      exact (ladd_bad ⟨A.x.toArray⟩ (A.p : Int) b0 A.bad.length c0 g0 A.gap.length d0 ⟨B.x.toArray⟩ (B.p : Int) b1 B.bad.length c1 g1 B.gap.length d1 up n m (c.toNat : Int) w n0 n1).mono fun _ _ ⟨q1, q2⟩ => ⟨_, q1, h0.below q2, q2⟩

theorem Ln.send_ok {N : Nat} {L : Ln.Li} (h : Ln.LOk N L) (n : Int) (s : List UInt8) : Ln.LOk (N + s.length) (Ln.send L n s).1 := by
  unfold Ln.send
  split
  · exact h.mono (by omega)
  split
  · exact h.mono (by omega)
  split
  · exact h.mono (by omega)
  rename_i hf
  unfold Ln.put
  split
  · rename_i e
    rw [Ln.way, if_pos e] at hf ⊢
    exact ⟨Ln.sendW_ok h.a s (by omega), h.b.mono (by omega)⟩
  · rename_i e
    rw [Ln.way, if_neg e] at hf ⊢
    exact ⟨h.a.mono (by omega), Ln.sendW_ok h.b s (by omega)⟩
theorem Ln.take_ok {N : Nat} {L : Ln.Li} (h : Ln.LOk N L) (n m : Int) : Ln.LOk N (Ln.take L n m).1 := by
  unfold Ln.take
  split
  · exact h
  unfold Ln.put
  split
  · rename_i e
    rw [Ln.way, if_pos e]
    exact ⟨Ln.takeW_ok h.a _ (by unfold Ln.much; omega), h.b⟩
  · rename_i e
    rw [Ln.way, if_neg e]
    exact ⟨h.a, Ln.takeW_ok h.b _ (by unfold Ln.much; omega)⟩
theorem Ln.lose_ok {N : Nat} {L : Ln.Li} (h : Ln.LOk N L) (n m : Int) : Ln.LOk N (Ln.lose L n m).1 := by
  unfold Ln.lose
  split
  · rename_i ht
    simp only [Ln.there, Bool.and_eq_true, decide_eq_true_eq] at ht
    unfold Ln.put
    split
    · rename_i e
      rw [Ln.way, if_pos e] at ht ⊢
      exact ⟨Ln.loseW_ok h.a _ (by omega), h.b⟩
    · rename_i e
      rw [Ln.way, if_neg e] at ht ⊢
      exact ⟨h.a, Ln.loseW_ok h.b _ (by omega)⟩
  · exact h
theorem Ln.flip_ok {N : Nat} {L : Ln.Li} (h : Ln.LOk N L) (n m bit : Int) : Ln.LOk N (Ln.flip L n m bit).1 := by
  unfold Ln.flip
  split
  · rename_i ht
    simp only [Ln.there, Bool.and_eq_true, decide_eq_true_eq] at ht
    unfold Ln.put
    split
    · rename_i e
      rw [Ln.way, if_pos e] at ht ⊢
      exact ⟨Ln.flipW_ok h.a _ (by omega) _, h.b⟩
    · rename_i e
      rw [Ln.way, if_neg e] at ht ⊢
      exact ⟨h.a, Ln.flipW_ok h.b _ (by omega) _⟩
  · exact h
theorem Ln.add_ok {N : Nat} {L : Ln.Li} (h : Ln.LOk N L) (n m : Int) (c : UInt8) : Ln.LOk (N + 1) (Ln.add L n m c).1 := by
  unfold Ln.add
  split
  · rename_i ht
    simp only [Bool.and_eq_true, decide_eq_true_eq] at ht
    split
    · exact h.mono (by omega)
    rename_i hf
    unfold Ln.put
    split
    · rename_i e
      rw [Ln.way, if_pos e] at ht hf ⊢
      exact ⟨Ln.addW_ok h.a _ (by omega) (by omega) _, h.b.mono (by omega)⟩
    · rename_i e
      rw [Ln.way, if_neg e] at ht hf ⊢
      exact ⟨h.a.mono (by omega), Ln.addW_ok h.b _ (by omega) (by omega) _⟩
  · exact h.mono (by omega)
theorem Ln.open_ok {N : Nat} {L : Ln.Li} (h : Ln.LOk N L) : Ln.LOk N (Ln.open_ L).1 := by
  unfold Ln.open_
  split
  · exact h
  · exact ⟨Ln.empty_ok _, Ln.empty_ok _⟩
end Go.Proofs.Ytalleocmnnnchaa
