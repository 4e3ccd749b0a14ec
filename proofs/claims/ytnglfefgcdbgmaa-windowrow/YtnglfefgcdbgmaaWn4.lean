/-
  Walks of layer 14: placeOf, Find; the document's right, Find.
-/
import Derived.Test.YtnglfefgcdbgmaaWn3
import Derived.Deep.RegionHeld3
import Derived.Deep.DeepCutAuto
namespace Go.Proofs.Ytnglfefgcdbgmaa
open Go.RowKit
set_option maxHeartbeats 1000000 in
set_option maxRecDepth 100000 in
theorem placeOf_go (m s b : Int) (a : Option Addr) (n c : Nat) (k A R : Int) (rt ok lo hi : Bool)
    (HR : Hid (∀ w, Calls Try.prog 27 #[.agg #[.int .i64 m, .int .i64 s, .int .i64 b, .slice a n c]] w fun e w' => e = .returned (.bool rt) ∧ Below w.heap.size w w'))
    (HA : Hid (∀ w, Calls Try.prog 10 #[.int .i64 b, .int .i64 k, .int .i64 m] w fun e w' => e = .returned (.int .i64 A) ∧ w' = w))
    (dl : decide (A < 0) = lo) (dh : decide ((n : Int) ≤ A) = hi) (hok : Hid (ok = (rt && (!lo && !hi)))) (hR : Hid (R = if ok = true then A else 0)) (w : World) :
    Calls Try.prog 32 #[.agg #[.int .i64 m, .int .i64 s, .int .i64 b, .slice a n c], .int .i64 k] w fun e w' => e = .returned (.tuple #[.int .i64 R, .bool ok]) ∧ Below w.heap.size w w' := by
  cases rt with
  | false =>
    obtain rfl := hok.out
    obtain rfl := hR.out
    clear hok hR
    go_enter Try.func32, Try.ntmps32
    go_wp2_with (go_at_call 27; refine (HR.out _).mono ?_; rintro e w2 ⟨rfl, b2⟩)
    go_ret2
    exact ⟨rfl, Rg.chain (Rg.al1 _ _) b2⟩
  | true =>
    cases lo with
    | true =>
      obtain rfl := hok.out
      obtain rfl := hR.out
      clear hok hR
      go_enter Try.func32, Try.ntmps32
      go_upto_region 3 with (go_at_call 27; refine (HR.out _).mono ?_; rintro e w2 ⟨rfl, b2⟩)
      have k2 := Rg.Bk.below (Rg.Bk.new (C := [.int .i64 m, .int .i64 s, .int .i64 b, .slice a n c]) rfl) b2 (by simp)
      have c0 := k2.cell 0; have c2 := k2.cell 2; have c3 := k2.cell 3
      have b3 := Rg.hid (Rg.chain (Rg.al1 _ _) b2)
      clear k2 b2
      go_wp2_with (go_at_call 10; refine (HA.out _).mono ?_; rintro e w3 ⟨rfl, rfl⟩)
      go_ret2
      exact ⟨rfl, b3.out⟩
    | false =>
      cases hi with
      | true =>
        obtain rfl := hok.out
        obtain rfl := hR.out
        clear hok hR
        go_enter Try.func32, Try.ntmps32
        go_upto_region 3 with (go_at_call 27; refine (HR.out _).mono ?_; rintro e w2 ⟨rfl, b2⟩)
        have k2 := Rg.Bk.below (Rg.Bk.new (C := [.int .i64 m, .int .i64 s, .int .i64 b, .slice a n c]) rfl) b2 (by simp)
        have c0 := k2.cell 0; have c2 := k2.cell 2; have c3 := k2.cell 3
        have b3 := Rg.hid (Rg.chain (Rg.al1 _ _) b2)
        clear k2 b2
        go_wp2_with (go_at_call 10; refine (HA.out _).mono ?_; rintro e w3 ⟨rfl, rfl⟩)
        go_ret2
        exact ⟨rfl, b3.out⟩
      | false =>
        obtain rfl := hok.out
        obtain rfl := hR.out
        clear hok hR
        go_enter Try.func32, Try.ntmps32
        go_upto_region 3 with (go_at_call 27; refine (HR.out _).mono ?_; rintro e w2 ⟨rfl, b2⟩)
        have k2 := Rg.Bk.below (Rg.Bk.new (C := [.int .i64 m, .int .i64 s, .int .i64 b, .slice a n c]) rfl) b2 (by simp)
        have c0 := k2.cell 0; have c2 := k2.cell 2; have c3 := k2.cell 3
        have b3 := Rg.hid (Rg.chain (Rg.al1 _ _) b2)
        clear k2 b2
        go_wp2_with (go_at_call 10; refine (HA.out _).mono ?_; rintro e w3 ⟨rfl, rfl⟩)
        go_ret2
        exact ⟨rfl, b3.out⟩
/-- The place of a number, as the program tells it. -/
def Wn.plN (X : Wn.W) (k : Int) : Nat := (Wn.place X k).getD 0
theorem placeOf_any (X : Wn.W) (a : Option Addr) (c : Nat) (k : Int) (w : World) :
    Calls Try.prog 32 #[WV X a c, .int .i64 k] w fun e w' => e = .returned (.tuple #[.int .i64 (Wn.plN X k : Int), .bool (Wn.place X k).isSome]) ∧ Below w.heap.size w w' := by
  refine placeOf_go X.md X.sz X.bs a X.l.length c k (Wn.ahead X.bs k X.md) _ (Wn.rt X) _ _ _ (isRight_any X a c) (ahead_any _ _ _) rfl rfl ?_ ?_ w
  · show _ = _
    unfold Wn.place
    split
    · rename_i h
      rw [h.1, decide_eq_false (by omega), decide_eq_false (by omega)]; rfl
    · rename_i h
      cases hr : Wn.rt X with
      | false => rfl
      | true =>
        rcases Int.lt_or_le (Wn.ahead X.bs k X.md) 0 with h0 | h0
        · rw [decide_eq_true h0]; rfl
        · rcases Int.lt_or_le (Wn.ahead X.bs k X.md) X.l.length with h1 | h1
          · exact absurd ⟨hr, h0, h1⟩ h
          · rw [decide_eq_true h1]; simp
  · show _ = _
    unfold Wn.plN Wn.place
    split
    · rename_i h
      simp; omega
    · simp
end Go.Proofs.Ytnglfefgcdbgmaa
