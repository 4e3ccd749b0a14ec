/-
  Walks of layer 14's statements: same; WindowSteps.
-/
import Derived.Test.YtnglfefgcdbgmaaWn9
import Derived.Deep.QuietTactic
import Derived.BigQuiet
namespace Go.Proofs.Ytnglfefgcdbgmaa
open Go.RowKit
set_option maxHeartbeats 4000000 in
set_option maxRecDepth 100000 in
theorem same_go (m s b : Int) (a : Option Addr) (c : Nat) (a' : Option Addr) (c' n : Nat) (l : List ByteArray) (hnl : Hid (n = l.length)) (hn : n ≤ 1000000) (w : World) (h1 : Hid (SRow w a l)) (h2 : Hid (SRow w a' l)) :
    Calls Try.prog 12 #[.agg #[.int .i64 m, .int .i64 s, .int .i64 b, .slice a n c], .agg #[.int .i64 m, .int .i64 s, .int .i64 b, .slice a' n c']] w fun e w' => e = .returned (.bool true) ∧ Below w.heap.size w w' := by
  have kA : Hid (Rg.Bk w.heap.size [.int .i64 m, .int .i64 s, .int .i64 b, .slice a n c] 24 ((w.alloc (.cells #[.int .i64 m, .int .i64 s, .int .i64 b, .slice a n c] 24)).alloc (.cells #[.int .i64 m, .int .i64 s, .int .i64 b, .slice a' n c'] 24))) := (Rg.Bk.new rfl).old _
  have kB : Hid (Rg.Bk (w.heap.size + 1) [.int .i64 m, .int .i64 s, .int .i64 b, .slice a' n c'] 24 ((w.alloc (.cells #[.int .i64 m, .int .i64 s, .int .i64 b, .slice a n c] 24)).alloc (.cells #[.int .i64 m, .int .i64 s, .int .i64 b, .slice a' n c'] 24))) := Rg.Bk.new (by simp)
  have hb1 := Rg.hid (Rg.al2 w (.cells #[.int .i64 m, .int .i64 s, .int .i64 b, .slice a n c] 24) (.cells #[.int .i64 m, .int .i64 s, .int .i64 b, .slice a' n c'] 24))
  go_enter Try.func12, Try.ntmps12
  go_upto_region 1 with fail
  generalize World.alloc _ _ = w1 at *
  obtain ⟨B, hB⟩ : ∃ B, B = w.heap.size := ⟨_, rfl⟩
  obtain ⟨R, hR⟩ : ∃ R, R = w.heap.size + 1 := ⟨_, rfl⟩
  rw [← hR] at kB ⊢
  rw [← hB] at kA ⊢
  clear hB hR
  have z0 : w1.cell? ⟨B, 0, none⟩ = some (.int .i64 m) := kA.out.cell 0
  have z1 : w1.cell? ⟨B, 1, none⟩ = some (.int .i64 s) := kA.out.cell 1
  have z2 : w1.cell? ⟨B, 2, none⟩ = some (.int .i64 b) := kA.out.cell 2
  have z3 : w1.cell? ⟨B, 3, none⟩ = some (.slice a n c) := kA.out.cell 3
  have r0 : w1.cell? ⟨R, 0, none⟩ = some (.int .i64 m) := kB.out.cell 0
  have r1 : w1.cell? ⟨R, 1, none⟩ = some (.int .i64 s) := kB.out.cell 1
  have r2 : w1.cell? ⟨R, 2, none⟩ = some (.int .i64 b) := kB.out.cell 2
  have r3 : w1.cell? ⟨R, 3, none⟩ = some (.slice a' n c') := kB.out.cell 3
  go_wp2
  clear z0 z1 z2 z3 r0 r1 r2 r3
  go_loopw [37] (fun vi wr => ∃ i : Nat, i ≤ n ∧ vi = .int .i64 i ∧ Below w1.heap.size w1 wr) (fun vi _ => n - (intOf vi).toNat)
  case atStart => exact ⟨0, Nat.zero_le _, rfl, Below.refl _ _⟩
  case round =>
    obtain ⟨i, hin, rfl, hbw⟩ := hrel
    by_cases hlt : i < n
    · have hil : i < l.length := by rw [← hnl.out]; exact hlt
      have hbx := Rg.chain hb1.out hbw
      obtain ⟨b1, o1, rfl, _, _, y1⟩ := (h1.out.below hbx).cell hil
      obtain ⟨b2, o2, rfl, _, _, y2⟩ := (h2.out.below hbx).cell hil
      have z3 : wr.cell? ⟨B, 3, none⟩ = some (.slice (some ⟨b1, o1, none⟩) n c) := (kA.out.below hbw kA.out.lt).cell 3
      have r3 : wr.cell? ⟨R, 3, none⟩ = some (.slice (some ⟨b2, o2, none⟩) n c') := (kB.out.below hbw kB.out.lt).cell 3
      generalize l[i] = D at *
      have iz0 : (0 : Int) ≤ (i : Int) := by omega
      have iz1 : (i : Int) < (n : Int) := by omega
      clear h1 h2 hil hbx kA kB
      go_upto_region 6 with fail
      go_quiet (fail)
      go_wp2
      go_roundw
      case rel => exact ⟨i + 1, by omega, by go_num, Rg.drewN hbw _⟩
      case measure => simp [intOf]; omega
    · have hie : i = n := by omega
      subst hie
      go_wp2
      go_ret
      exact ⟨rfl, Rg.chain hb1.out hbw⟩
theorem same_any (X : Wn.W) (hn : X.l.length ≤ 1000000) (a : Option Addr) (c : Nat) (a' : Option Addr) (c' : Nat) (w : World) (h1 : WAt w X a c) (h2 : WAt w X a' c') :
    Calls Try.prog 12 #[WV X a c, WV X a' c'] w fun e w' => e = .returned (.bool true) ∧ Below w.heap.size w w' :=
  same_go X.md X.sz X.bs a c a' c' X.l.length X.l rfl hn w h1.row h2.row
theorem awakeF (w : World) : Hid (∀ W, Below w.heap.size w W → Calls Try.prog 13 #[] W fun e w' => e = .returned (.bool true) ∧ Below w.heap.size w w') := fun W hW => (awake_any W).mono fun _ _ ⟨h1, h2⟩ => ⟨h1, Rg.chain hW h2⟩
set_option maxHeartbeats 4000000 in
set_option maxRecDepth 100000 in
theorem steps_core (x y z m s b A : Int) (er : Nat) (w : World)
    (HB : Hid (∀ W, Calls Try.prog 8 #[.int .i64 z, .int .i64 x, .int .i64 y] W fun e w' => e = .returned (.tuple #[.agg #[.int .i64 m, .int .i64 s, .int .i64 b, .slice none 0 0], .int .i64 (er : Nat)]) ∧ Below W.heap.size W w'))
    (HC : Hid (∀ W, Calls Try.prog 9 #[.int .i64 z, .int .i64 x, .int .i64 y] W fun e w' => e = .returned (.tuple #[.agg #[.int .i64 m, .int .i64 s, .int .i64 b, .slice none 0 0], .int .i64 (er : Nat)]) ∧ Below W.heap.size W w'))
    (H1 : Hid (∀ W, Calls Try.prog 10 #[.int .i64 x, .int .i64 y, .int .i64 z] W fun e w' => e = .returned (.int .i64 A) ∧ w' = W))
    (H2 : Hid (∀ W, Calls Try.prog 11 #[.int .i64 x, .int .i64 y, .int .i64 z] W fun e w' => e = .returned (.int .i64 A) ∧ w' = W))
    (HS : Hid (∀ W, Calls Try.prog 12 #[.agg #[.int .i64 m, .int .i64 s, .int .i64 b, .slice none 0 0], .agg #[.int .i64 m, .int .i64 s, .int .i64 b, .slice none 0 0]] W fun e w' => e = .returned (.bool true) ∧ Below W.heap.size W w'))
    (HA : Hid (∀ W, Below w.heap.size w W → Calls Try.prog 13 #[] W fun e w' => e = .returned (.bool true) ∧ Below w.heap.size w w')) :
    Calls Try.prog 3 #[.int .i64 x, .int .i64 y, .int .i64 z] w fun e w' => e = .returned (.bool true) ∧ Below w.heap.size w w' := by
  go_enter Try.func3, Try.ntmps3
  go_upto_region 2 with (go_at_call 8; refine (HB.out _).mono ?_; rintro e w1 ⟨rfl, b1⟩)
  have kA : Hid (Rg.Bk w1.heap.size [.int .i64 m, .int .i64 s, .int .i64 b, .slice none 0 0] 24 (w1.alloc (.cells #[.int .i64 m, .int .i64 s, .int .i64 b, .slice none 0 0] 24))) := Rg.Bk.new rfl
  have b2 := Rg.chain b1 (Rg.al1 w1 (.cells #[.int .i64 m, .int .i64 s, .int .i64 b, .slice none 0 0] 24))
  generalize World.alloc _ _ = w2 at *
  obtain ⟨V, hV⟩ : ∃ V, V = w1.heap.size := ⟨_, rfl⟩
  rw [← hV] at kA ⊢
  clear hV
  go_upto_region 3 with (go_at_call 9; refine (HC.out _).mono ?_; rintro e w3 ⟨rfl, b3⟩)
  have kB : Hid (Rg.Bk w3.heap.size [.int .i64 m, .int .i64 s, .int .i64 b, .slice none 0 0] 24 (w3.alloc (.cells #[.int .i64 m, .int .i64 s, .int .i64 b, .slice none 0 0] 24))) := Rg.Bk.new rfl
  have b4 := Rg.chain b3 (Rg.al1 w3 (.cells #[.int .i64 m, .int .i64 s, .int .i64 b, .slice none 0 0] 24))
  generalize World.alloc _ _ = w4 at *
  obtain ⟨U, hU⟩ : ∃ U, U = w3.heap.size := ⟨_, rfl⟩
  rw [← hU] at kB ⊢
  clear hU
  have kA4 := kA.out.below b4 kA.out.lt
  have b5 := Rg.hid (Rg.chain b2 b4)
  have z0 : w4.cell? ⟨V, 0, none⟩ = some (.int .i64 m) := kA4.cell 0
  have z1 : w4.cell? ⟨V, 1, none⟩ = some (.int .i64 s) := kA4.cell 1
  have z2 : w4.cell? ⟨V, 2, none⟩ = some (.int .i64 b) := kA4.cell 2
  have z3 : w4.cell? ⟨V, 3, none⟩ = some (.slice none 0 0) := kA4.cell 3
  have r0 : w4.cell? ⟨U, 0, none⟩ = some (.int .i64 m) := kB.out.cell 0
  have r1 : w4.cell? ⟨U, 1, none⟩ = some (.int .i64 s) := kB.out.cell 1
  have r2 : w4.cell? ⟨U, 2, none⟩ = some (.int .i64 b) := kB.out.cell 2
  have r3 : w4.cell? ⟨U, 3, none⟩ = some (.slice none 0 0) := kB.out.cell 3
  clear kA kA4 kB HB HC b1 b2 b3 b4
  go_wp2_with (first
    | (go_at_call 10; refine (H1.out _).mono ?_; rintro e w5 ⟨rfl, hw5⟩; obtain rfl := hw5.symm)
    | (go_at_call 11; refine (H2.out _).mono ?_; rintro e w5 ⟨rfl, hw5⟩; obtain rfl := hw5.symm)
    | (go_at_call 12; refine (HS.out _).mono ?_; rintro e w6 ⟨rfl, b6⟩; have b7 := Rg.chain b5.out b6)
    | (go_at_call 13; refine (HA.out _ b7).mono ?_; rintro e w7 ⟨rfl, b8⟩))
  go_ret
  exact ⟨rfl, b8⟩
theorem steps_walk (x y z : Int) (w : World) : Calls Try.prog 3 #[.int .i64 x, .int .i64 y, .int .i64 z] w fun e w' => e = .returned (.bool true) ∧ Below w.heap.size w w' :=
  steps_core x y z _ _ _ _ _ w (fun W => begin_any z x y W) (fun W => rbegin_any z x y W) (ahead_any x y z) (rahead_any x y z) (fun W => same_go _ _ _ none 0 none 0 0 [] rfl (by omega) W .nil .nil) (awakeF w)
end Go.Proofs.Ytnglfefgcdbgmaa
