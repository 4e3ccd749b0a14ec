/-
  Walks of layer 14's statements: WindowKeeps, whatever is handed in.
-/
import Derived.Test.YtnglfefgcdbgmaaWnM
namespace Go.Proofs.Ytnglfefgcdbgmaa
open Go.RowKit
namespace Wn
/-- The window's width that the statements take. -/
theorem widthOf (z : Int) (M : Nat) (h2 : 2 ≤ M) (hM : M ≤ 64) : ∃ (U r Z : Nat) (M1 : Int), IntKind.u64.wrap z = (U : Int) ∧ wrap64 ((M : Int) - 1) = M1 ∧ IntKind.u64.wrap M1 = M1 ∧ ¬ M1 = 0 ∧ (U : Int).tmod M1 = (r : Int) ∧ IntKind.i64.wrap (r : Int) = (r : Int) ∧ wrap64 (1 + (r : Int)) = (Z : Int) ∧ fit M Z 0 := by
  obtain ⟨U, hU⟩ : ∃ U : Nat, IntKind.u64.wrap z = (U : Int) := ⟨(IntKind.u64.wrap z).toNat, by rw [IntKind.wrap_u64]; omega⟩
  have hlt : U % (M - 1) < M - 1 := Nat.mod_lt _ (by omega)
  have e : (((M - 1 : Nat)) : Int) = (M : Int) - 1 := by omega
  refine ⟨U, U % (M - 1), 1 + U % (M - 1), (M : Int) - 1, hU, ?_, ?_, by omega, ?_, ?_, ?_, ?_⟩
  · unfold wrap64; omega
  · rw [IntKind.wrap_u64]; omega
  · rw [← e, Int.tmod_eq_emod_of_nonneg (by omega)]; rfl
  · rw [IntKind.wrap_i64]; omega
  · unfold wrap64; omega
  · unfold fit; omega
end Wn
theorem keeps_walk (p q : Int) (al : Option Addr) (cp : Nat) (l : List Wn.Op) (w : World) (hr : ORow w al l) :
    Calls Try.prog 6 #[.int .i64 p, .int .i64 q, .slice al l.length cp] w fun e w' => e = .returned (.bool true) ∧ Below w.heap.size w w' := by
  obtain ⟨U, r, M, m0, m1, _, m2, m3, _, h2, hM⟩ := Wn.modOf p
  obtain ⟨U2, r2, Z, M1, s0, s1, s2, s3, s4, s5, s6, hf⟩ := Wn.widthOf q M h2 hM
  by_cases hN : 200 < l.length
  · exact keeps_big p q al cp w U r M U2 r2 Z l.length M1 m0 m1 m2 m3 s0 s1 s2 s3 s4 s5 s6 (by clear m0 m1 m2 m3 s0 s1 s2 s3 s4 s5 s6; simp; omega) (awakeF w)
  · refine keeps_core p q al cp l w U r M U2 r2 Z l.length M1 m0 m1 m2 m3 s0 s1 s2 s3 s4 s5 s6 rfl (by clear m0 m1 m2 m3 s0 s1 s2 s3 s4 s5 s6; simp; omega) (by clear m0 m1 m2 m3 s0 s1 s2 s3 s4 s5 s6; omega) hr (awakeF w) (fun W => ?_) (Wn.KP.begin_ hf)
    have h := begin_any M Z 0 W
    unfold BPost at h
    rw [show Wn.begin_ M Z 0 = (⟨M, Z, 0, []⟩, 0) from if_pos hf] at h
    exact h
end Go.Proofs.Ytnglfefgcdbgmaa
