/-
  Walks of layer 14's statements: WindowRow, whatever is handed in.
-/
import Derived.Test.YtnglfefgcdbgmaaWnR
namespace Go.Proofs.Ytnglfefgcdbgmaa
open Go.RowKit
theorem Wn.row_of_fit {m s : Int} (h : Wn.fit m s 0) : Wn.Row m s 0 ⟨m, s, 0, []⟩ := by
  have := (Wn.row_begin h).1
  rw [show Wn.begin_ m s 0 = (⟨m, s, 0, []⟩, 0) from if_pos h] at this
  exact this
theorem row_walk (p q : Int) (al : Option Addr) (cp : Nat) (l : List Wn.Op) (w : World) (hr : ORow w al l) :
    Calls Try.prog 5 #[.int .i64 p, .int .i64 q, .slice al l.length cp] w fun e w' => e = .returned (.bool true) ∧ Below w.heap.size w w' := by
  obtain ⟨U, r, M, m0, m1, _, m2, m3, _, h2, hM⟩ := Wn.modOf p
  obtain ⟨U2, r2, Z, M1, s0, s1, s2, s3, s4, s5, s6, hf⟩ := Wn.widthOf q M h2 hM
  by_cases hN : 300 < l.length
  · exact row_big p q al cp w U r M U2 r2 Z l.length M1 m0 m1 m2 m3 s0 s1 s2 s3 s4 s5 s6 (by clear m0 m1 m2 m3 s0 s1 s2 s3 s4 s5 s6; simp; omega) (awakeF w)
  · refine row_core p q al cp l w U r M U2 r2 Z l.length M1 m0 m1 m2 m3 s0 s1 s2 s3 s4 s5 s6 rfl (by clear m0 m1 m2 m3 s0 s1 s2 s3 s4 s5 s6; simp; omega) (by clear m0 m1 m2 m3 s0 s1 s2 s3 s4 s5 s6; omega) hr (awakeF w) (fun W => ?_) (Wn.row_of_fit hf) (by clear m0 m1 m2 m3 s0 s1 s2 s3 s4 s5 s6; omega)
    have h := begin_any M Z 0 W
    unfold BPost at h
    rw [show Wn.begin_ M Z 0 = (⟨M, Z, 0, []⟩, 0) from if_pos hf] at h
    exact h
end Go.Proofs.Ytnglfefgcdbgmaa
