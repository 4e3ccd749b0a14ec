/-
  Walks of layer 14's statements: WindowCalls, whatever is handed in.
-/
import Derived.Test.YtnglfefgcdbgmaaWnI
namespace Go.Proofs.Ytnglfefgcdbgmaa
open Go.RowKit
set_option maxHeartbeats 4000000 in
set_option maxRecDepth 100000 in
theorem calls_far (m s b k : Int) (a : Option Addr) (n c : Nat) (x : ByteArray) (w : World)
    (HF : Hid (∀ W, Below w.heap.size w W → Calls Try.prog 14 #[.agg #[.int .i64 m, .int .i64 s, .int .i64 b, .slice a n c]] W fun e w' => e = .returned (.bool true) ∧ Hid (Below W.heap.size W w'))) 
    (HA : Hid (∀ W, Below w.heap.size w W → Calls Try.prog 13 #[] W fun e w' => e = .returned (.bool true) ∧ Below w.heap.size w w')) :
    Calls Try.prog 4 #[.agg #[.int .i64 m, .int .i64 s, .int .i64 b, .slice a n c], .int .i64 k, .string x] w fun e w' => e = .returned (.bool true) ∧ Below w.heap.size w w' := by
  have kB1 : Hid (Rg.Bk w.heap.size [.int .i64 m, .int .i64 s, .int .i64 b, .slice a n c] 24 (w.alloc (.cells #[.int .i64 m, .int .i64 s, .int .i64 b, .slice a n c] 24))) := Rg.Bk.new rfl
  have hb1 := Rg.hid (Rg.al1 w (.cells #[.int .i64 m, .int .i64 s, .int .i64 b, .slice a n c] 24))
  go_enter Try.func4, Try.ntmps4
  go_upto_region 1 with fail
  generalize World.alloc _ _ = w1 at *
  obtain ⟨B, hB⟩ : ∃ B, B = w.heap.size := ⟨_, rfl⟩
  rw [← hB] at kB1 ⊢
  clear hB
  have z0 : w1.cell? ⟨B, 0, none⟩ = some (.int .i64 m) := kB1.out.cell 0
  have z1 : w1.cell? ⟨B, 1, none⟩ = some (.int .i64 s) := kB1.out.cell 1
  have z2 : w1.cell? ⟨B, 2, none⟩ = some (.int .i64 b) := kB1.out.cell 2
  have z3 : w1.cell? ⟨B, 3, none⟩ = some (.slice a n c) := kB1.out.cell 3
  go_wp2_with (first
    | (go_at_call 14; refine (HF.out _ hb1.out).mono ?_; rintro e w2 ⟨rfl, b1⟩)
    | (go_at_call 13; refine (HA.out _ (Rg.chain hb1.out b1.out)).mono ?_; rintro e w3 ⟨rfl, b3⟩))
  go_ret
  exact ⟨rfl, b3⟩
set_option maxHeartbeats 4000000 in
set_option maxRecDepth 100000 in
theorem calls_long (m s b k : Int) (a : Option Addr) (n c : Nat) (x : ByteArray) (w : World)
    (HF : Hid (∀ W, Below w.heap.size w W → Calls Try.prog 14 #[.agg #[.int .i64 m, .int .i64 s, .int .i64 b, .slice a n c]] W fun e w' => e = .returned (.bool false) ∧ Hid (Below W.heap.size W w'))) (hx : decide ((3000 : Int) < (x.size : Int)) = true)
    (HA : Hid (∀ W, Below w.heap.size w W → Calls Try.prog 13 #[] W fun e w' => e = .returned (.bool true) ∧ Below w.heap.size w w')) :
    Calls Try.prog 4 #[.agg #[.int .i64 m, .int .i64 s, .int .i64 b, .slice a n c], .int .i64 k, .string x] w fun e w' => e = .returned (.bool true) ∧ Below w.heap.size w w' := by
  have kB1 : Hid (Rg.Bk w.heap.size [.int .i64 m, .int .i64 s, .int .i64 b, .slice a n c] 24 (w.alloc (.cells #[.int .i64 m, .int .i64 s, .int .i64 b, .slice a n c] 24))) := Rg.Bk.new rfl
  have hb1 := Rg.hid (Rg.al1 w (.cells #[.int .i64 m, .int .i64 s, .int .i64 b, .slice a n c] 24))
  go_enter Try.func4, Try.ntmps4
  go_upto_region 1 with fail
  generalize World.alloc _ _ = w1 at *
  obtain ⟨B, hB⟩ : ∃ B, B = w.heap.size := ⟨_, rfl⟩
  rw [← hB] at kB1 ⊢
  clear hB
  have z0 : w1.cell? ⟨B, 0, none⟩ = some (.int .i64 m) := kB1.out.cell 0
  have z1 : w1.cell? ⟨B, 1, none⟩ = some (.int .i64 s) := kB1.out.cell 1
  have z2 : w1.cell? ⟨B, 2, none⟩ = some (.int .i64 b) := kB1.out.cell 2
  have z3 : w1.cell? ⟨B, 3, none⟩ = some (.slice a n c) := kB1.out.cell 3
  go_wp2_with (first
    | (go_at_call 14; refine (HF.out _ hb1.out).mono ?_; rintro e w2 ⟨rfl, b1⟩)
    | (go_at_call 13; refine (HA.out _ (Rg.chain hb1.out b1.out)).mono ?_; rintro e w3 ⟨rfl, b3⟩))
  go_ret
  exact ⟨rfl, b3⟩
theorem Wn.put_len (X : Wn.W) (x : ByteArray) : (Wn.put X x).1.l.length ≤ X.l.length + 1 := by
  unfold Wn.put
  split
  · split
    · exact Nat.le_succ _
    · simp
  · exact Nat.le_succ _
theorem Wn.ack_len (X : Wn.W) (k : Int) : (Wn.ack X k).1.l.length ≤ X.l.length := by
  unfold Wn.ack
  split
  · simp
  · exact Nat.le_refl _
theorem Wn.nums_le (X : Wn.W) : (Wn.nums X).length ≤ X.l.length := by
  unfold Wn.nums
  split <;> simp
theorem Wn.find_parts (X : Wn.W) (k : Int) : ∃ t f, Wn.findV X k = .tuple #[.string t, .bool f] := by
  unfold Wn.findV
  split
  · exact ⟨_, _, rfl⟩
  · exact ⟨_, _, rfl⟩
theorem calls_walk (X : Wn.W) (a : Option Addr) (c : Nat) (k : Int) (x : ByteArray) (w : World) (h : WAt w X a c) :
    Calls Try.prog 4 #[WV X a c, .int .i64 k, .string x] w fun e w' => e = .returned (.bool true) ∧ Below w.heap.size w w' := by
  have HF : ∀ W, Below w.heap.size w W → Calls Try.prog 14 #[WV X a c] W fun e w' => e = .returned (.bool (Wn.far X.l.length X.l)) ∧ Below W.heap.size W w' := fun W hW => far_go X.md X.sz X.bs a X.l.length c X.l rfl _ rfl W (h.row.below hW)
  cases hf : Wn.far X.l.length X.l with
  | true =>
    rw [hf] at HF
    exact calls_far _ _ _ k a _ c x w HF (awakeF w)
  | false =>
    rw [hf] at HF
    by_cases hx : 3000 < x.size
    · exact calls_long _ _ _ k a _ c x w HF (decide_eq_true (by omega)) (awakeF w)
    · have hn : X.l.length ≤ 200 := by
        unfold Wn.far at hf
        rw [Bool.or_eq_false_iff] at hf
        have := of_decide_eq_false hf.1
        omega
      obtain ⟨t, f, hfv⟩ := Wn.find_parts X k
      have l1 := Wn.put_len X x
      have l2 := Wn.ack_len X k
      have l3 := Wn.nums_le X
      have HG := fun W (hW : Below w.heap.size w W) => find_any X a c k W (h.below hW)
      have HGr := fun W (hW : Below w.heap.size w W) => rfind_any X a c k W (h.below hW)
      rw [hfv] at HG HGr
      exact calls_core X.md X.sz X.bs k a X.l.length c x (Wn.put X x).1.md (Wn.put X x).1.sz (Wn.put X x).1.bs (Wn.put X x).2.1 (Wn.ack X k).1.md (Wn.ack X k).1.sz (Wn.ack X k).1.bs (Wn.put X x).1.l.length (Wn.ack X k).1.l.length (Wn.put X x).2.2 (Wn.ack X k).2 (Wn.nums X).length (Wn.put X x).1.l (Wn.ack X k).1.l t f (Wn.nums X) rfl (by omega) w HF (decide_eq_false (by omega))
        (fun W hW => (put_any X a c x W (h.below hW)).mono fun e w' ⟨a', c', h1, h2, h3⟩ => ⟨a', c', h1, h2.row, h3⟩)
        (fun W hW => (rput_any X (by omega) a c x W (h.below hW)).mono fun e w' ⟨a', c', h1, h2, h3⟩ => ⟨a', c', h1, h2.row, h3⟩)
        (fun W hW => (ack_any X a c k W (h.below hW)).mono fun e w' ⟨a', c', h1, h2, h3⟩ => ⟨a', c', h1, h2.row, h3⟩)
        (fun W hW => (rack_any X (by omega) a c k W (h.below hW)).mono fun e w' ⟨a', c', h1, h2, h3⟩ => ⟨a', c', h1, h2.row, h3⟩)
        HG HGr
        (fun W _ => (numbers_any X a c W).mono fun e w' ⟨a', c', h1, h2, h3⟩ => ⟨a', c', h1, h2, h3⟩)
        (fun W _ => (rnumbers_any X a c W).mono fun e w' ⟨a', c', h1, h2, h3⟩ => ⟨a', c', h1, h2, h3⟩)
        (fun a1 c1 a2 c2 W h1 h2 => same_go _ _ _ a1 c1 a2 c2 _ _ rfl (by omega) W h1 h2)
        (fun a1 c1 a2 c2 W h1 h2 => same_go _ _ _ a1 c1 a2 c2 _ _ rfl (by omega) W h1 h2) (awakeF w)
end Go.Proofs.Ytnglfefgcdbgmaa
