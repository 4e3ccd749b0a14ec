/-
  Layer 7: a line in memory; each call of it.
-/
import Derived.Test.YtalleocmnnnchaaLn14
import Derived.Test.YtalleocmnnnchaaLn11
import Derived.Test.YtalleocmnnnchaaMathM
namespace Go.Proofs.Ytalleocmnnnchaa
open Go.RowKit
namespace Ln
/-- a line -/
structure Li where
  a : Wy
  b : Wy
  up : Bool
structure LOk (n : Nat) (L : Li) : Prop where
  a : WOk n L.a
  b : WOk n L.b
theorem LOk.mono {n m : Nat} {L : Li} (h : LOk n L) (hm : n ≤ m) : LOk m L := ⟨h.a.mono hm, h.b.mono hm⟩
def way (L : Li) (n : Int) : Wy := if n = 0 then L.a else L.b
def put (L : Li) (n : Int) (r : Wy) : Li := if n = 0 then { L with a := r } else { L with b := r }
def nway (n : Int) : Bool := decide (n = 0 ∨ n = 1)
def new : Li := ⟨empty, empty, true⟩
def hung : Li := ⟨empty, empty, false⟩
def send (L : Li) (n : Int) (s : List UInt8) : Li × Int :=
  if nway n = false then (L, 1) else if L.up = false then (L, 9) else if 40000 < (way L n).x.length + s.length then (L, 8) else (put L n (sendW (way L n) s), 0)
def much (m : Int) (k : Nat) : Nat := (min m (k : Int)).toNat
def take (L : Li) (n m : Int) : Li × List UInt8 :=
  if nway n = false ∨ m < 1 then (L, []) else (put L n (takeW (way L n) (much m (way L n).x.length)), (way L n).x.take (much m (way L n).x.length))
def there (L : Li) (n m : Int) : Bool := nway n && L.up && decide (0 ≤ m ∧ m < ((way L n).x.length : Int))
def flip (L : Li) (n m bit : Int) : Li × Int :=
  if there L n m = true then (put L n (flipW (way L n) m.toNat (turn ((way L n).x.getD m.toNat 0) bit)), 0) else (L, 6)
def lose (L : Li) (n m : Int) : Li × Int := if there L n m = true then (put L n (loseW (way L n) m.toNat), 0) else (L, 6)
def add (L : Li) (n m : Int) (c : UInt8) : Li × Int :=
  if (nway n && L.up && decide (0 ≤ m ∧ m ≤ ((way L n).x.length : Int))) = true then (if 40000 ≤ (way L n).x.length then (L, 8) else (put L n (addW (way L n) m.toNat c), 0)) else (L, 6)
def open_ (L : Li) : Li × Int := if L.up = true then (L, 10) else (new, 0)
end Ln
/-- a line as a value, its rows in memory -/
def LAt (W : World) (v : Value) (L : Ln.Li) : Prop := ∃ b0 c0 g0 d0 b1 c1 g1 d1, v = .agg #[.string ⟨L.a.x.toArray⟩, .int .i64 (L.a.p : Int), .slice b0 L.a.bad.length c0, .slice g0 L.a.gap.length d0, .string ⟨L.b.x.toArray⟩, .int .i64 (L.b.p : Int), .slice b1 L.b.bad.length c1, .slice g1 L.b.gap.length d1, .bool L.up] ∧ IRow W b0 L.a.bad ∧ L.a.bad.length ≤ c0 ∧ IRow W g0 L.a.gap ∧ L.a.gap.length ≤ d0 ∧ IRow W b1 L.b.bad ∧ L.b.bad.length ≤ c1 ∧ IRow W g1 L.b.gap ∧ L.b.gap.length ≤ d1
theorem LAt.below {W W' : World} {v : Value} {L : Ln.Li} (h : LAt W v L) (hb : Below W.heap.size W W') : LAt W' v L := by
  obtain ⟨b0, c0, g0, d0, b1, c1, g1, d1, h0, h1, h2, h3, h4, h5, h6, h7, h8⟩ := h
  exact ⟨b0, c0, g0, d0, b1, c1, g1, d1, h0, h1.below hb, h2, h3.below hb, h4, h5.below hb, h6, h7.below hb, h8⟩
theorem LAt.only {W W' : World} {v : Value} {L : Ln.Li} {R : Nat} {C : List Value} {ty : TypeId} (h : LAt W v L) (k : Rg.Bk R C ty W) (hty : ty ≠ 3) (ho : Rg.Only R W W') : LAt W' v L := by
  obtain ⟨b0, c0, g0, d0, b1, c1, g1, d1, h0, h1, h2, h3, h4, h5, h6, h7, h8⟩ := h
  exact ⟨b0, c0, g0, d0, b1, c1, g1, d1, h0, h1.only k hty ho, h2, h3.only k hty ho, h4, h5.only k hty ho, h6, h7.only k hty ho, h8⟩
/-- behind a call that hands back a line and an error, a line and a text -/
def EPost (w : World) (r : Ln.Li × Int) (e : Ending) (w' : World) : Prop := ∃ v, e = .returned (.tuple #[v, .int .i64 r.2]) ∧ LAt w' v r.1 ∧ Below w.heap.size w w'
def TPost (w : World) (r : Ln.Li × List UInt8) (e : Ending) (w' : World) : Prop := ∃ v, e = .returned (.tuple #[v, .string ⟨r.2.toArray⟩]) ∧ LAt w' v r.1 ∧ Below w.heap.size w w'
theorem ba_sz (l : List UInt8) : (⟨l.toArray⟩ : ByteArray).size = l.length := by simp [ByteArray.size]
theorem ba_cat (l : List UInt8) (s : ByteArray) : (⟨l.toArray⟩ : ByteArray) ++ s = ⟨(l ++ s.data.toList).toArray⟩ := by
  apply ba_ext
  rw [ba_app]
theorem ba_ex (l : List UInt8) (i k : Nat) : (⟨l.toArray⟩ : ByteArray).extract i k = ⟨((l.drop i).take (k - i)).toArray⟩ := by
  apply ba_ext
  simp [List.extract_eq_take_drop]
theorem lnew_at (w : World) : Calls Try.prog 11 #[] w fun e w' => ∃ v, e = .returned v ∧ LAt w' v Ln.new ∧ Below w.heap.size w w' :=
  (lnew_any w).mono fun _ _ ⟨h1, h2⟩ => ⟨_, h1, ⟨none, 0, none, 0, none, 0, none, 0, rfl, IRow.nil, Nat.le_refl _, IRow.nil, Nat.le_refl _, IRow.nil, Nat.le_refl _, IRow.nil, Nat.le_refl _⟩, h2⟩
theorem lhang_at (v : Value) (L : Ln.Li) (w : World) (h : LAt w v L) : Calls Try.prog 20 #[v] w fun e w' => ∃ v', e = .returned v' ∧ LAt w' v' Ln.hung ∧ Below w.heap.size w w' := by
  obtain ⟨b0, c0, g0, d0, b1, c1, g1, d1, rfl, h1, h2, h3, h4, h5, h6, h7, h8⟩ := h
  exact (lhang_any ⟨L.a.x.toArray⟩ (L.a.p : Int) b0 L.a.bad.length c0 g0 L.a.gap.length d0 ⟨L.b.x.toArray⟩ (L.b.p : Int) b1 L.b.bad.length c1 g1 L.b.gap.length d1 L.up w).mono fun _ _ ⟨q1, q2⟩ => ⟨_, q1, ⟨none, 0, none, 0, none, 0, none, 0, rfl, IRow.nil, Nat.le_refl _, IRow.nil, Nat.le_refl _, IRow.nil, Nat.le_refl _, IRow.nil, Nat.le_refl _⟩, q2⟩
theorem lopen_at (v : Value) (L : Ln.Li) (w : World) (h : LAt w v L) : Calls Try.prog 24 #[v] w fun e w' => EPost w (Ln.open_ L) e w' := by
  have h0 := h
  obtain ⟨b0, c0, g0, d0, b1, c1, g1, d1, rfl, h1, h2, h3, h4, h5, h6, h7, h8⟩ := h
  obtain ⟨A, B, up⟩ := L
  cases up
  · exact (lopen_down ⟨A.x.toArray⟩ (A.p : Int) b0 A.bad.length c0 g0 A.gap.length d0 ⟨B.x.toArray⟩ (B.p : Int) b1 B.bad.length c1 g1 B.gap.length d1 w).mono fun _ _ ⟨q1, q2⟩ => ⟨_, q1, ⟨none, 0, none, 0, none, 0, none, 0, rfl, IRow.nil, Nat.le_refl _, IRow.nil, Nat.le_refl _, IRow.nil, Nat.le_refl _, IRow.nil, Nat.le_refl _⟩, q2⟩
  · exact (lopen_up ⟨A.x.toArray⟩ (A.p : Int) b0 A.bad.length c0 g0 A.gap.length d0 ⟨B.x.toArray⟩ (B.p : Int) b1 B.bad.length c1 g1 B.gap.length d1 w).mono fun _ _ ⟨q1, q2⟩ => ⟨_, q1, h0.below q2, q2⟩

theorem lsend_at (v : Value) (L : Ln.Li) (n : Int) (s : ByteArray) (N : Nat) (w : World) (hL : Ln.LOk N L) (hs : s.size ≤ 100000) (h : LAt w v L) : Calls Try.prog 18 #[v, .int .i64 n, .string s] w fun e w' => EPost w (Ln.send L n s.data.toList) e w' := by
  have h0 := h
  obtain ⟨b0, c0, g0, d0, b1, c1, g1, d1, rfl, h1, h2, h3, h4, h5, h6, h7, h8⟩ := h
  have fa := hL.a.full
  have fb := hL.b.full
  obtain ⟨A, B, up⟩ := L
  have hsl : s.data.toList.length = s.size := rfl
  dsimp only at *
  unfold Ln.send
  by_cases n0 : n = 0
  · subst n0
    rw [if_neg (by decide)]
    cases up
    · exact (lsend_down0 ⟨A.x.toArray⟩ (A.p : Int) b0 A.bad.length c0 g0 A.gap.length d0 ⟨B.x.toArray⟩ (B.p : Int) b1 B.bad.length c1 g1 B.gap.length d1 s w).mono fun _ _ ⟨q1, q2⟩ => ⟨_, q1, h0.below q2, q2⟩
    · rw [if_neg (by simp)]
      show Calls _ _ _ _ fun e w' => EPost w (if 40000 < A.x.length + s.data.toList.length then _ else _) e w'
      by_cases hf : 40000 < A.x.length + s.data.toList.length
      · rw [if_pos hf]
        exact (lsend_full0 ⟨A.x.toArray⟩ (A.p : Int) b0 A.bad.length c0 g0 A.gap.length d0 ⟨B.x.toArray⟩ (B.p : Int) b1 B.bad.length c1 g1 B.gap.length d1 s w (by rw [ba_sz]; omega) (by omega) (by rw [ba_sz]; omega)).mono fun _ _ ⟨q1, q2⟩ => ⟨_, q1, h0.below q2, q2⟩
      · rw [if_neg hf]
        exact (lsend_ok0 ⟨A.x.toArray⟩ (A.p : Int) b0 A.bad.length c0 g0 A.gap.length d0 ⟨B.x.toArray⟩ (B.p : Int) b1 B.bad.length c1 g1 B.gap.length d1 s w (by rw [ba_sz]; omega)).mono fun _ _ ⟨q1, q2⟩ => ⟨_, q1, ⟨b0, c0, g0, d0, b1, c1, g1, d1, by rw [ba_cat]; rfl, h1.below q2, h2, h3.below q2, h4, h5.below q2, h6, h7.below q2, h8⟩, q2⟩
  · by_cases n1 : n = 1
    · subst n1
      rw [if_neg (by decide)]
      cases up
      · exact (lsend_down1 ⟨A.x.toArray⟩ (A.p : Int) b0 A.bad.length c0 g0 A.gap.length d0 ⟨B.x.toArray⟩ (B.p : Int) b1 B.bad.length c1 g1 B.gap.length d1 s w).mono fun _ _ ⟨q1, q2⟩ => ⟨_, q1, h0.below q2, q2⟩
      · rw [if_neg (by simp)]
        show Calls _ _ _ _ fun e w' => EPost w (if 40000 < B.x.length + s.data.toList.length then _ else _) e w'
        by_cases hf : 40000 < B.x.length + s.data.toList.length
        · rw [if_pos hf]
          exact (lsend_full1 ⟨A.x.toArray⟩ (A.p : Int) b0 A.bad.length c0 g0 A.gap.length d0 ⟨B.x.toArray⟩ (B.p : Int) b1 B.bad.length c1 g1 B.gap.length d1 s w (by rw [ba_sz]; omega) (by omega) (by rw [ba_sz]; omega)).mono fun _ _ ⟨q1, q2⟩ => ⟨_, q1, h0.below q2, q2⟩
        · rw [if_neg hf]
          exact (lsend_ok1 ⟨A.x.toArray⟩ (A.p : Int) b0 A.bad.length c0 g0 A.gap.length d0 ⟨B.x.toArray⟩ (B.p : Int) b1 B.bad.length c1 g1 B.gap.length d1 s w (by rw [ba_sz]; omega)).mono fun _ _ ⟨q1, q2⟩ => ⟨_, q1, ⟨b0, c0, g0, d0, b1, c1, g1, d1, by rw [ba_cat]; rfl, h1.below q2, h2, h3.below q2, h4, h5.below q2, h6, h7.below q2, h8⟩, q2⟩
    · rw [if_pos (by simp [Ln.nway, n0, n1])]
      exact (lsend_bad ⟨A.x.toArray⟩ (A.p : Int) b0 A.bad.length c0 g0 A.gap.length d0 ⟨B.x.toArray⟩ (B.p : Int) b1 B.bad.length c1 g1 B.gap.length d1 up n s w n0 n1).mono fun _ _ ⟨q1, q2⟩ => ⟨_, q1, h0.below q2, q2⟩

theorem ltake_at (v : Value) (L : Ln.Li) (n m : Int) (N : Nat) (w : World) (hL : Ln.LOk N L) (hN : N ≤ 100000000) (h : LAt w v L) : Calls Try.prog 19 #[v, .int .i64 n, .int .i64 m] w fun e w' => TPost w (Ln.take L n m) e w' := by
  have h0 := h
  obtain ⟨b0, c0, g0, d0, b1, c1, g1, d1, rfl, h1, h2, h3, h4, h5, h6, h7, h8⟩ := h
  have fa := hL.a.full
  have fb := hL.b.full
  have sa := hL.a.size
  have sb := hL.b.size
  obtain ⟨A, B, up⟩ := L
  dsimp only at *
  unfold Ln.take
  by_cases n0 : n = 0
  · subst n0
    by_cases hm : m < 1
    · rw [if_pos (.inr hm)]
      exact (ltake_none0 ⟨A.x.toArray⟩ (A.p : Int) b0 A.bad.length c0 g0 A.gap.length d0 ⟨B.x.toArray⟩ (B.p : Int) b1 B.bad.length c1 g1 B.gap.length d1 up m w hm).mono fun _ _ ⟨q1, q2⟩ => ⟨_, q1, h0.below q2, q2⟩
    · rw [if_neg (by intro q; rcases q with q | q; (· revert q; decide); exact hm q)]
      show Calls _ _ _ _ fun e w' => TPost w (Ln.put _ 0 (Ln.takeW A (Ln.much m A.x.length)), A.x.take (Ln.much m A.x.length)) e w'
      have hM : min m ((⟨A.x.toArray⟩ : ByteArray).size : Int) = ((Ln.much m A.x.length : Nat) : Int) := by rw [ba_sz]; unfold Ln.much; omega
      have hh := ltake_some0 ⟨A.x.toArray⟩ (A.p : Int) b0 A.bad.length c0 g0 A.gap.length d0 ⟨B.x.toArray⟩ (B.p : Int) b1 B.bad.length c1 g1 B.gap.length d1 up m _ w (by omega) hM (by rw [ba_sz]; omega) (by omega) (by omega)
      rw [ba_ex _ 0, ba_sz, ba_ex, List.take_of_length_le (l := A.x.drop _) (by rw [List.length_drop]; exact Nat.le_refl _), List.drop_zero, Nat.sub_zero] at hh
      exact hh.mono fun _ _ ⟨q1, q2⟩ => ⟨_, q1, ⟨b0, c0, g0, d0, b1, c1, g1, d1, by simp [Ln.put, Ln.takeW], h1.below q2, h2, h3.below q2, h4, h5.below q2, h6, h7.below q2, h8⟩, q2⟩
  · by_cases n1 : n = 1
    · subst n1
      by_cases hm : m < 1
      · rw [if_pos (.inr hm)]
        exact (ltake_none1 ⟨A.x.toArray⟩ (A.p : Int) b0 A.bad.length c0 g0 A.gap.length d0 ⟨B.x.toArray⟩ (B.p : Int) b1 B.bad.length c1 g1 B.gap.length d1 up m w hm).mono fun _ _ ⟨q1, q2⟩ => ⟨_, q1, h0.below q2, q2⟩
      · rw [if_neg (by intro q; rcases q with q | q; (· revert q; decide); exact hm q)]
        show Calls _ _ _ _ fun e w' => TPost w (Ln.put _ 1 (Ln.takeW B (Ln.much m B.x.length)), B.x.take (Ln.much m B.x.length)) e w'
        have hM : min m ((⟨B.x.toArray⟩ : ByteArray).size : Int) = ((Ln.much m B.x.length : Nat) : Int) := by rw [ba_sz]; unfold Ln.much; omega
        have hh := ltake_some1 ⟨A.x.toArray⟩ (A.p : Int) b0 A.bad.length c0 g0 A.gap.length d0 ⟨B.x.toArray⟩ (B.p : Int) b1 B.bad.length c1 g1 B.gap.length d1 up m _ w (by omega) hM (by rw [ba_sz]; omega) (by omega) (by omega)
        rw [ba_ex _ 0, ba_sz, ba_ex, List.take_of_length_le (l := B.x.drop _) (by rw [List.length_drop]; exact Nat.le_refl _), List.drop_zero, Nat.sub_zero] at hh
        exact hh.mono fun _ _ ⟨q1, q2⟩ => ⟨_, q1, ⟨b0, c0, g0, d0, b1, c1, g1, d1, by simp [Ln.put, Ln.takeW], h1.below q2, h2, h3.below q2, h4, h5.below q2, h6, h7.below q2, h8⟩, q2⟩
    · rw [if_pos (.inl (by simp [Ln.nway, n0, n1]))]
      exact (ltake_bad ⟨A.x.toArray⟩ (A.p : Int) b0 A.bad.length c0 g0 A.gap.length d0 ⟨B.x.toArray⟩ (B.p : Int) b1 B.bad.length c1 g1 B.gap.length d1 up n m w n0 n1).mono fun _ _ ⟨q1, q2⟩ => ⟨_, q1, h0.below q2, q2⟩
end Go.Proofs.Ytalleocmnnnchaa
