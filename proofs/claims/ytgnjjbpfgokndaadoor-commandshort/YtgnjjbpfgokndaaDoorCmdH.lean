/-
  Walks of the laws of layer 10: CommandTexts, CommandShort.
-/
import Derived.Test.YtgnjjbpfgokndaaDoorCmdG
import Derived.Test.YtgnjjbpfgokndaaDoorCmdD
namespace Go.Proofs.YtgnjjbpfgokndaaDoor
open Go.RowKit

theorem below_moreC {w0 w' : World} (h : Below w0.heap.size w0 w') (o : Obj) : Below w0.heap.size w0 (w'.alloc o) := h.alloc h.size o
def OneC (w0 : World) (b : Nat) (v g n k : Int) (u f t c : ByteArray) (z a : Int) (e : Ending) (w' : World) : Prop := ∃ L : Bool, e = .returned (.bool L) ∧ Below w0.heap.size w0 w' ∧ b < w'.heap.size ∧ CK b v g n k u f t c z a w'
theorem clong_at {v g n k : Int} {u f t c : ByteArray} {z a : Int} {w0 : World} {b m : Nat} (hm : w0.heap.size = m) (h0 : CK b v g n k u f t c z a w0) (hb : b < w0.heap.size) :
    Calls Tryd.prog 8 #[.slice (some ⟨m, 0, none⟩) 1 1] (w0.alloc (.cells #[.int .i64 v, .int .i64 g, .int .i64 n, .int .i64 k, .string u, .string f, .string t, .string c, .int .i64 z, .int .i64 a] 27)) fun e w' => OneC w0 b v g n k u f t c z a e w' :=
  (clong_one v g n k u f t c z a w0 m hm).mono fun _ _ ⟨L, h1, h2⟩ => ⟨L, h1, h2, Nat.lt_of_lt_of_le hb h2.size, h0.below h2 hb⟩

set_option maxHeartbeats 4000000 in
set_option maxRecDepth 100000 in
theorem texts_walk (v : Int) (g : Int) (n : Int) (k : Int) (u : ByteArray) (hu : u.size ≤ maxLen) (f : ByteArray) (hf : f.size ≤ maxLen) (t : ByteArray) (ht : t.size ≤ maxLen) (c : ByteArray) (hc : c.size ≤ maxLen) (z : Int) (a : Int) (w : World) (hw : Ok w) :
    Calls Tryd.prog 3 #[.agg #[.int .i64 v, .int .i64 g, .int .i64 n, .int .i64 k, .string u, .string f, .string t, .string c, .int .i64 z, .int .i64 a]] w fun e w' => e = .returned (.bool true) ∧ Below w.heap.size w w' := by
  have hb0 : w.heap.size < (w.alloc (.cells #[.int .i64 v, .int .i64 g, .int .i64 n, .int .i64 k, .string u, .string f, .string t, .string c, .int .i64 z, .int .i64 a] 27)).heap.size := by simp
  have hk0 : CK w.heap.size v g n k u f t c z a (w.alloc (.cells #[.int .i64 v, .int .i64 g, .int .i64 n, .int .i64 k, .string u, .string f, .string t, .string c, .int .i64 z, .int .i64 a] 27)) := ck_new v g n k u f t c z a w _
  have bw : Below w.heap.size w (w.alloc (.cells #[.int .i64 v, .int .i64 g, .int .i64 n, .int .i64 k, .string u, .string f, .string t, .string c, .int .i64 z, .int .i64 a] 27)) := below_alloc1 w _
  have hw0 : Ok (w.alloc (.cells #[.int .i64 v, .int .i64 g, .int .i64 n, .int .i64 k, .string u, .string f, .string t, .string c, .int .i64 z, .int .i64 a] 27)) := hw.below bw
  have HL : Hid (Calls Tryd.prog 8 #[.slice (some ⟨w.heap.size + 1, 0, none⟩) 1 1] ((w.alloc (.cells #[.int .i64 v, .int .i64 g, .int .i64 n, .int .i64 k, .string u, .string f, .string t, .string c, .int .i64 z, .int .i64 a] 27)).alloc (.cells #[.int .i64 v, .int .i64 g, .int .i64 n, .int .i64 k, .string u, .string f, .string t, .string c, .int .i64 z, .int .i64 a] 27)) fun e w' => OneC (w.alloc (.cells #[.int .i64 v, .int .i64 g, .int .i64 n, .int .i64 k, .string u, .string f, .string t, .string c, .int .i64 z, .int .i64 a] 27)) w.heap.size v g n k u f t c z a e w') := clong_at (by simp) hk0 hb0
  have HA : Hid (∀ W, Below (w.alloc (.cells #[.int .i64 v, .int .i64 g, .int .i64 n, .int .i64 k, .string u, .string f, .string t, .string c, .int .i64 z, .int .i64 a] 27)).heap.size (w.alloc (.cells #[.int .i64 v, .int .i64 g, .int .i64 n, .int .i64 k, .string u, .string f, .string t, .string c, .int .i64 z, .int .i64 a] 27)) W → Calls Tryd.prog 9 #[] W fun e w' => e = .returned (.bool true) ∧ Below (w.alloc (.cells #[.int .i64 v, .int .i64 g, .int .i64 n, .int .i64 k, .string u, .string f, .string t, .string c, .int .i64 z, .int .i64 a] 27)).heap.size (w.alloc (.cells #[.int .i64 v, .int .i64 g, .int .i64 n, .int .i64 k, .string u, .string f, .string t, .string c, .int .i64 z, .int .i64 a] 27)) w' ∧ w.heap.size < w'.heap.size ∧ CK w.heap.size v g n k u f t c z a w') := fun W hW => cchain hk0 hb0 hW (cawake_any W (hw0.below hW))
  have HT : Hid (∀ W, Below (w.alloc (.cells #[.int .i64 v, .int .i64 g, .int .i64 n, .int .i64 k, .string u, .string f, .string t, .string c, .int .i64 z, .int .i64 a] 27)).heap.size (w.alloc (.cells #[.int .i64 v, .int .i64 g, .int .i64 n, .int .i64 k, .string u, .string f, .string t, .string c, .int .i64 z, .int .i64 a] 27)) W → Calls Tryd.prog 10 #[.agg #[.int .i64 v, .int .i64 g, .int .i64 n, .int .i64 k, .string u, .string f, .string t, .string c, .int .i64 z, .int .i64 a]] W fun e w' => e = .returned (.tuple #[.string ⟨(Cmd.text ⟨v, ⟨g, n, k, u, f, t, c, z⟩, a⟩).1.toArray⟩, .int .i64 ((Cmd.text ⟨v, ⟨g, n, k, u, f, t, c, z⟩, a⟩).2 : Nat)]) ∧ Below (w.alloc (.cells #[.int .i64 v, .int .i64 g, .int .i64 n, .int .i64 k, .string u, .string f, .string t, .string c, .int .i64 z, .int .i64 a] 27)).heap.size (w.alloc (.cells #[.int .i64 v, .int .i64 g, .int .i64 n, .int .i64 k, .string u, .string f, .string t, .string c, .int .i64 z, .int .i64 a] 27)) w' ∧ w.heap.size < w'.heap.size ∧ CK w.heap.size v g n k u f t c z a w') := fun W hW => cchain hk0 hb0 hW (ctext_any v g n k u f t c z a W (hw0.below hW) hu hf ht hc)
  have HR : Hid (∀ W, Below (w.alloc (.cells #[.int .i64 v, .int .i64 g, .int .i64 n, .int .i64 k, .string u, .string f, .string t, .string c, .int .i64 z, .int .i64 a] 27)).heap.size (w.alloc (.cells #[.int .i64 v, .int .i64 g, .int .i64 n, .int .i64 k, .string u, .string f, .string t, .string c, .int .i64 z, .int .i64 a] 27)) W → Calls Tryd.prog 11 #[.agg #[.int .i64 v, .int .i64 g, .int .i64 n, .int .i64 k, .string u, .string f, .string t, .string c, .int .i64 z, .int .i64 a]] W fun e w' => e = .returned (.tuple #[.string ⟨(Cmd.text ⟨v, ⟨g, n, k, u, f, t, c, z⟩, a⟩).1.toArray⟩, .int .i64 ((Cmd.text ⟨v, ⟨g, n, k, u, f, t, c, z⟩, a⟩).2 : Nat)]) ∧ Below (w.alloc (.cells #[.int .i64 v, .int .i64 g, .int .i64 n, .int .i64 k, .string u, .string f, .string t, .string c, .int .i64 z, .int .i64 a] 27)).heap.size (w.alloc (.cells #[.int .i64 v, .int .i64 g, .int .i64 n, .int .i64 k, .string u, .string f, .string t, .string c, .int .i64 z, .int .i64 a] 27)) w' ∧ w.heap.size < w'.heap.size ∧ CK w.heap.size v g n k u f t c z a w') := fun W hW => cchain hk0 hb0 hW (rctext_any v g n k u f t c z a W (hw0.below hW) hu hf ht hc)
  obtain ⟨j0, j1, j2, j3, j4, j5, j6, j7, j8, j9⟩ := hk0
  generalize (⟨(Cmd.text ⟨v, ⟨g, n, k, u, f, t, c, z⟩, a⟩).1.toArray⟩ : ByteArray) = X at *
  generalize ((Cmd.text ⟨v, ⟨g, n, k, u, f, t, c, z⟩, a⟩).2 : Int) = q at *
  clear hw hw0 hu hf ht hc
  go_enter Tryd.func3, Tryd.ntmps3
  go_wp2_with (go_at_call 8; refine HL.out.mono ?_)
  intro e w1 hl1
  obtain ⟨L, rfl, b1, z1, i0, i1, i2, i3, i4, i5, i6, i7, i8, i9⟩ := hl1
  cases L
  · go_wp2_with (first
      | (go_at_call 9; refine (HA.out _ (by first | assumption | exact below_moreC (by assumption) _)).mono ?_; rintro e w' ⟨rfl, b', z', i0, i1, i2, i3, i4, i5, i6, i7, i8, i9⟩)
      | (go_at_call 10; refine (HT.out _ (by first | assumption | exact below_moreC (by assumption) _)).mono ?_; rintro e w' ⟨rfl, b', z', i0, i1, i2, i3, i4, i5, i6, i7, i8, i9⟩)
      | (go_at_call 11; refine (HR.out _ (by first | assumption | exact below_moreC (by assumption) _)).mono ?_; rintro e w' ⟨rfl, b', z', i0, i1, i2, i3, i4, i5, i6, i7, i8, i9⟩))
    go_ret
    exact ⟨rfl, bw.trans (Below.mono (by first | assumption | exact Below.drew (by assumption)) bw.size)⟩
  · go_wp2_with (go_at_call 9; refine (HA.out _ (by first | assumption | exact below_moreC (by assumption) _)).mono ?_; rintro e w' ⟨rfl, b', z', i0, i1, i2, i3, i4, i5, i6, i7, i8, i9⟩)
    go_ret
    exact ⟨rfl, bw.trans (Below.mono (by first | assumption | exact Below.drew (by assumption)) bw.size)⟩

namespace Cmd
theorem plain_at {X : ByteArray} (h : X.data.toList.all plain = true) (k : Nat) (hk : k < X.size) : 32 ≤ (X[k].toNat : Int) ∧ (X[k].toNat : Int) ≤ 126 := by
  have := List.all_eq_true.1 h _ (Oct.mem_at X k hk)
  unfold plain at this
  have := of_decide_eq_true this
  omega
end Cmd

set_option maxHeartbeats 4000000 in
set_option maxRecDepth 100000 in
theorem short_walk (v : Int) (g : Int) (n : Int) (k : Int) (u : ByteArray) (hu : u.size ≤ maxLen) (f : ByteArray) (hf : f.size ≤ maxLen) (t : ByteArray) (ht : t.size ≤ maxLen) (c : ByteArray) (hc : c.size ≤ maxLen) (z : Int) (a : Int) (w : World) (hw : Ok w) :
    Calls Tryd.prog 7 #[.agg #[.int .i64 v, .int .i64 g, .int .i64 n, .int .i64 k, .string u, .string f, .string t, .string c, .int .i64 z, .int .i64 a]] w fun e w' => e = .returned (.bool true) ∧ Below w.heap.size w w' := by
  have hb0 : w.heap.size < (w.alloc (.cells #[.int .i64 v, .int .i64 g, .int .i64 n, .int .i64 k, .string u, .string f, .string t, .string c, .int .i64 z, .int .i64 a] 27)).heap.size := by simp
  have hk0 : CK w.heap.size v g n k u f t c z a (w.alloc (.cells #[.int .i64 v, .int .i64 g, .int .i64 n, .int .i64 k, .string u, .string f, .string t, .string c, .int .i64 z, .int .i64 a] 27)) := ck_new v g n k u f t c z a w _
  have bw : Below w.heap.size w (w.alloc (.cells #[.int .i64 v, .int .i64 g, .int .i64 n, .int .i64 k, .string u, .string f, .string t, .string c, .int .i64 z, .int .i64 a] 27)) := below_alloc1 w _
  have hw0 : Ok (w.alloc (.cells #[.int .i64 v, .int .i64 g, .int .i64 n, .int .i64 k, .string u, .string f, .string t, .string c, .int .i64 z, .int .i64 a] 27)) := hw.below bw
  have HL : Hid (Calls Tryd.prog 8 #[.slice (some ⟨w.heap.size + 1, 0, none⟩) 1 1] ((w.alloc (.cells #[.int .i64 v, .int .i64 g, .int .i64 n, .int .i64 k, .string u, .string f, .string t, .string c, .int .i64 z, .int .i64 a] 27)).alloc (.cells #[.int .i64 v, .int .i64 g, .int .i64 n, .int .i64 k, .string u, .string f, .string t, .string c, .int .i64 z, .int .i64 a] 27)) fun e w' => OneC (w.alloc (.cells #[.int .i64 v, .int .i64 g, .int .i64 n, .int .i64 k, .string u, .string f, .string t, .string c, .int .i64 z, .int .i64 a] 27)) w.heap.size v g n k u f t c z a e w') := clong_at (by simp) hk0 hb0
  have HA : Hid (∀ W, Below (w.alloc (.cells #[.int .i64 v, .int .i64 g, .int .i64 n, .int .i64 k, .string u, .string f, .string t, .string c, .int .i64 z, .int .i64 a] 27)).heap.size (w.alloc (.cells #[.int .i64 v, .int .i64 g, .int .i64 n, .int .i64 k, .string u, .string f, .string t, .string c, .int .i64 z, .int .i64 a] 27)) W → Calls Tryd.prog 9 #[] W fun e w' => e = .returned (.bool true) ∧ Below (w.alloc (.cells #[.int .i64 v, .int .i64 g, .int .i64 n, .int .i64 k, .string u, .string f, .string t, .string c, .int .i64 z, .int .i64 a] 27)).heap.size (w.alloc (.cells #[.int .i64 v, .int .i64 g, .int .i64 n, .int .i64 k, .string u, .string f, .string t, .string c, .int .i64 z, .int .i64 a] 27)) w' ∧ w.heap.size < w'.heap.size ∧ CK w.heap.size v g n k u f t c z a w') := fun W hW => cchain hk0 hb0 hW (cawake_any W (hw0.below hW))
  have HT : Hid (∀ W, Below (w.alloc (.cells #[.int .i64 v, .int .i64 g, .int .i64 n, .int .i64 k, .string u, .string f, .string t, .string c, .int .i64 z, .int .i64 a] 27)).heap.size (w.alloc (.cells #[.int .i64 v, .int .i64 g, .int .i64 n, .int .i64 k, .string u, .string f, .string t, .string c, .int .i64 z, .int .i64 a] 27)) W → Calls Tryd.prog 10 #[.agg #[.int .i64 v, .int .i64 g, .int .i64 n, .int .i64 k, .string u, .string f, .string t, .string c, .int .i64 z, .int .i64 a]] W fun e w' => e = .returned (.tuple #[.string ⟨(Cmd.text ⟨v, ⟨g, n, k, u, f, t, c, z⟩, a⟩).1.toArray⟩, .int .i64 ((Cmd.text ⟨v, ⟨g, n, k, u, f, t, c, z⟩, a⟩).2 : Nat)]) ∧ Below (w.alloc (.cells #[.int .i64 v, .int .i64 g, .int .i64 n, .int .i64 k, .string u, .string f, .string t, .string c, .int .i64 z, .int .i64 a] 27)).heap.size (w.alloc (.cells #[.int .i64 v, .int .i64 g, .int .i64 n, .int .i64 k, .string u, .string f, .string t, .string c, .int .i64 z, .int .i64 a] 27)) w' ∧ w.heap.size < w'.heap.size ∧ CK w.heap.size v g n k u f t c z a w') := fun W hW => cchain hk0 hb0 hW (ctext_any v g n k u f t c z a W (hw0.below hW) hu hf ht hc)
  obtain ⟨j0, j1, j2, j3, j4, j5, j6, j7, j8, j9⟩ := hk0
  clear hw hw0 hu hf ht hc
  rcases Cmd.text_two ⟨v, ⟨g, n, k, u, f, t, c, z⟩, a⟩ with ⟨x, hx⟩ | ⟨q, hq, hx⟩
  · obtain ⟨l1, l2, l3⟩ := Cmd.short hx
    have hx' : Cmd.text ⟨v, ⟨g, n, k, u, f, t, c, z⟩, a⟩ = (x, 0) := hx
    rw [hx'] at HT
    dsimp only at HT
    have s1 : 1 ≤ (⟨x.toArray⟩ : ByteArray).size := l1
    have s2 : (⟨x.toArray⟩ : ByteArray).size ≤ 165 := l2
    have HX : Hid (∀ k, ∀ hk : k < (⟨x.toArray⟩ : ByteArray).size, 32 ≤ ((⟨x.toArray⟩ : ByteArray)[k].toNat : Int) ∧ ((⟨x.toArray⟩ : ByteArray)[k].toNat : Int) ≤ 126) := Cmd.plain_at (X := ⟨x.toArray⟩) l3
    generalize (⟨x.toArray⟩ : ByteArray) = X at *
    have d1 : decide ((1 : Int) ≤ (X.size : Int)) = true := by simp; omega
    have d2 : decide ((X.size : Int) ≤ 200) = true := by simp; omega
    clear hx hx' l1 l2 l3
    go_enter Tryd.func7, Tryd.ntmps7
    go_wp2_with (go_at_call 8; refine HL.out.mono ?_)
    intro e w1 hl1
    obtain ⟨L, rfl, b1, z1, i0, i1, i2, i3, i4, i5, i6, i7, i8, i9⟩ := hl1
    cases L
    · go_wp2_with (first
        | (go_at_call 9; refine (HA.out _ (by first | assumption | exact below_moreC (by assumption) _)).mono ?_; rintro e w' ⟨rfl, b', z', i0, i1, i2, i3, i4, i5, i6, i7, i8, i9⟩)
        | (go_at_call 10; refine (HT.out _ (by first | assumption | exact below_moreC (by assumption) _)).mono ?_; rintro e w' ⟨rfl, b', z', i0, i1, i2, i3, i4, i5, i6, i7, i8, i9⟩))
      go_loop [24] (fun i => ∃ k : Nat, k ≤ X.size ∧ i = .int .i64 k) (fun i => X.size - (intOf i).toNat)
      case atStart => exact ⟨0, Nat.zero_le _, rfl⟩
      case round =>
        obtain ⟨k, hk, rfl⟩ := hrel
        by_cases hlt : k < X.size
        · obtain ⟨p1, p2⟩ := HX.out k hlt
          have p3 : decide ((X[k].toNat : Int) < 32) = false := decide_eq_false (by omega)
          have p4 : decide ((126 : Int) < (X[k].toNat : Int)) = false := decide_eq_false (by omega)
          have p5 : decide (X[k].toNat < 32) = false := decide_eq_false (by omega)
          have p6 : decide (126 < X[k].toNat) = false := decide_eq_false (by omega)
          go_wp2
          go_round
          case rel => exact ⟨k + 1, by omega, by go_num⟩
          case measure => simp [intOf]; omega
        · go_wp2_with (go_at_call 9; refine (HA.out _ (by first | assumption | exact below_moreC (by assumption) _)).mono ?_; rintro e w' ⟨rfl, b', z', i0, i1, i2, i3, i4, i5, i6, i7, i8, i9⟩)
          go_ret
          exact ⟨rfl, bw.trans (Below.mono (by first | assumption | exact Below.drew (by assumption)) bw.size)⟩
    · go_wp2_with (go_at_call 9; refine (HA.out _ (by first | assumption | exact below_moreC (by assumption) _)).mono ?_; rintro e w' ⟨rfl, b', z', i0, i1, i2, i3, i4, i5, i6, i7, i8, i9⟩)
      go_ret
      exact ⟨rfl, bw.trans (Below.mono (by first | assumption | exact Below.drew (by assumption)) bw.size)⟩
  · rw [hx] at HT
    obtain ⟨n1, n2, n3, n4⟩ := ne_facts hq
    dsimp only at HT
    have e0 : ((⟨#[]⟩ : ByteArray).toList == []) = true := by rw [tl_eq]; rfl
    clear hx hq
    go_enter Tryd.func7, Tryd.ntmps7
    go_wp2_with (go_at_call 8; refine HL.out.mono ?_)
    intro e w1 hl1
    obtain ⟨L, rfl, b1, z1, i0, i1, i2, i3, i4, i5, i6, i7, i8, i9⟩ := hl1
    cases L
    · go_wp2_with (first
        | (go_at_call 9; refine (HA.out _ (by first | assumption | exact below_moreC (by assumption) _)).mono ?_; rintro e w' ⟨rfl, b', z', i0, i1, i2, i3, i4, i5, i6, i7, i8, i9⟩)
        | (go_at_call 10; refine (HT.out _ (by first | assumption | exact below_moreC (by assumption) _)).mono ?_; rintro e w' ⟨rfl, b', z', i0, i1, i2, i3, i4, i5, i6, i7, i8, i9⟩))
      go_ret
      exact ⟨rfl, bw.trans (Below.mono (by first | assumption | exact Below.drew (by assumption)) bw.size)⟩
    · go_wp2_with (go_at_call 9; refine (HA.out _ (by first | assumption | exact below_moreC (by assumption) _)).mono ?_; rintro e w' ⟨rfl, b', z', i0, i1, i2, i3, i4, i5, i6, i7, i8, i9⟩)
      go_ret
      exact ⟨rfl, bw.trans (Below.mono (by first | assumption | exact Below.drew (by assumption)) bw.size)⟩
end Go.Proofs.YtgnjjbpfgokndaaDoor
