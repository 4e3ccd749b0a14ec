/-
  Layer 15: GprotoRight's walk.
-/
import Derived.Test.YtfiffbohhhehkaaGreatBsPh0
namespace Go.Proofs.YtfiffbohhhehkaaGreat
open Go.RowKit
/-- a pair laid in a new block -/
theorem pair_box {w : World} {CA CB : Array Value} {a b : Gp.Dr} {w0 w1 : List UInt8} (hA : ∀ Kp : Nat → Prop, DH Kp w a CA) (hB : ∀ Kp : Nat → Prop, DH Kp w b CB) : ∃ W', Hid ((storeVar 52 ⟨w.heap.size, 0, none⟩ (.agg (PC CA CB (bR w0 w1)).toArray)).run Tryz.prog (w.alloc (.cells #[.int .i64 0, .int .i64 0, .bool false, .int .i64 0, .int .i64 0, .int .i64 0, .int .i64 0, .int .i64 0, .int .i64 0, .slice none 0 0, .int .i64 0, .slice none 0 0, .string ⟨#[]⟩, .int .i64 0, .slice none 0 0, .int .i64 0, .int .i64 0, .slice none 0 0, .int .i64 0, .int .i64 0, .bool false, .int .i64 0, .int .i64 0, .int .i64 0, .int .i64 0, .int .i64 0, .int .i64 0, .slice none 0 0, .int .i64 0, .slice none 0 0, .string ⟨#[]⟩, .int .i64 0, .slice none 0 0, .int .i64 0, .int .i64 0, .slice none 0 0, .string ⟨#[]⟩, .string ⟨#[]⟩, .string ⟨#[]⟩, .string ⟨#[]⟩, .string ⟨#[]⟩, .string ⟨#[]⟩, .int .i64 0, .int .i64 0, .slice none 0 0, .slice none 0 0, .bool false] 52)) = .ok () W') ∧ Hid (Below w.heap.size w W') ∧ Hid (∀ Kp : Nat → Prop, ¬ Kp w.heap.size → PB Kp w.heap.size W' a b CA CB (bR w0 w1)) := by
  have hsz : (PC CA CB (bR w0 w1)).toArray.size = 47 := by
    unfold PC bR
    simp [(hA fun _ => True).size, (hB fun _ => True).size]
  have hone : (PC CA CB (bR w0 w1)).toArray.all (·.oneCell') = true := by
    have h1 := (hA fun _ => True).one
    have h2 := (hB fun _ => True).one
    unfold PC bR
    simp [Value.oneCell'] at *
    exact ⟨h1, h2⟩
  have k : Rg.Bk w.heap.size [.int .i64 0, .int .i64 0, .bool false, .int .i64 0, .int .i64 0, .int .i64 0, .int .i64 0, .int .i64 0, .int .i64 0, .slice none 0 0, .int .i64 0, .slice none 0 0, .string ⟨#[]⟩, .int .i64 0, .slice none 0 0, .int .i64 0, .int .i64 0, .slice none 0 0, .int .i64 0, .int .i64 0, .bool false, .int .i64 0, .int .i64 0, .int .i64 0, .int .i64 0, .int .i64 0, .int .i64 0, .slice none 0 0, .int .i64 0, .slice none 0 0, .string ⟨#[]⟩, .int .i64 0, .slice none 0 0, .int .i64 0, .int .i64 0, .slice none 0 0, .string ⟨#[]⟩, .string ⟨#[]⟩, .string ⟨#[]⟩, .string ⟨#[]⟩, .string ⟨#[]⟩, .string ⟨#[]⟩, .int .i64 0, .int .i64 0, .slice none 0 0, .slice none 0 0, .bool false] 52 (w.alloc (.cells #[.int .i64 0, .int .i64 0, .bool false, .int .i64 0, .int .i64 0, .int .i64 0, .int .i64 0, .int .i64 0, .int .i64 0, .slice none 0 0, .int .i64 0, .slice none 0 0, .string ⟨#[]⟩, .int .i64 0, .slice none 0 0, .int .i64 0, .int .i64 0, .slice none 0 0, .int .i64 0, .int .i64 0, .bool false, .int .i64 0, .int .i64 0, .int .i64 0, .int .i64 0, .int .i64 0, .int .i64 0, .slice none 0 0, .int .i64 0, .slice none 0 0, .string ⟨#[]⟩, .int .i64 0, .slice none 0 0, .int .i64 0, .int .i64 0, .slice none 0 0, .string ⟨#[]⟩, .string ⟨#[]⟩, .string ⟨#[]⟩, .string ⟨#[]⟩, .string ⟨#[]⟩, .string ⟨#[]⟩, .int .i64 0, .int .i64 0, .slice none 0 0, .slice none 0 0, .bool false] 52)) := Rg.Bk.new rfl
  obtain ⟨W', h1, h2, h3⟩ := Rg.row_storeVar (P := Tryz.prog) (t := 52) (CS := (PC CA CB (bR w0 w1)).toArray) k (by rw [hsz]; exact info_pair) (by rw [hsz]; rfl) hone
  have hb : Below w.heap.size w W' := (Rg.al1 _ _).trans (h3.bel (Nat.le_refl _))
  exact ⟨W', h1, hb, fun Kp hn => ⟨h2, (hA Kp).below hb, (hB Kp).below hb, hn⟩⟩
/-- what stands between two rounds -/
structure RtI (Kp : Nat → Prop) (BD : Nat) (w wD wr : World) (i : Nat) : Prop where
  dr : ∃ d CS, Rg.Bk BD (Array.toList CS) 29 wr ∧ DH Kp wr d CS ∧ Gp.Ok (5000 * i) d ∧ d.queue.length ≤ i
  bw : Below w.heap.size w wr
  sz : wD.heap.size ≤ wr.heap.size
theorem ok_send {n i : Nat} {d : Gp.Dr} (h : Gp.Ok (5000 * i) d) (hq : d.queue.length ≤ i) (x : Gp.Pc) (_hn : n = i + 1) : Gp.Ok (5000 * n) (Gp.send d x).1 ∧ (Gp.send d x).1.queue.length ≤ n := ⟨(h.send x).mono (by omega), by have := Gp.q_send d x; omega⟩
theorem ok_tick {n i : Nat} {d : Gp.Dr} (h : Gp.Ok (5000 * i) d) (hq : d.queue.length ≤ i) (hn : n = i + 1) (hi : i ≤ 100) : Gp.Ok (5000 * n) (Gp.tick d).1 ∧ (Gp.tick d).1.queue.length ≤ n := ⟨(h.tick (by omega)).mono (by omega), by rw [Gp.q_tick]; omega⟩
theorem ok_close {n i : Nat} {d : Gp.Dr} (h : Gp.Ok (5000 * i) d) (hq : d.queue.length ≤ i) (hn : n = i + 1) : Gp.Ok (5000 * n) (Gp.close d).1 ∧ (Gp.close d).1.queue.length ≤ n := ⟨h.close.mono (by omega), by rw [Gp.q_close]; omega⟩
theorem ok_feed {n i : Nat} {d : Gp.Dr} (h : Gp.Ok (5000 * i) d) (hq : d.queue.length ≤ i) (hn : n = i + 1) (hi : i ≤ 100) (s : List UInt8) (hs : s.length ≤ 5000) : Gp.Ok (5000 * n) (Gp.feed d s).1 ∧ (Gp.feed d s).1.queue.length ≤ n := ⟨(h.feed s (by omega)).mono (by omega), by have := Gp.q_feed d s; omega⟩
theorem ok_at {i : Nat} {d : Gp.Dr} (h : Gp.Ok (5000 * i) d) (hi : i ≤ 100) : d.at_ + d.buf.length ≤ 1099511627776 ∧ ∀ s : List UInt8, s.length ≤ 5000 → d.at_ + d.buf.length + s.length ≤ 1099511627776 ∧ d.buf.length + s.length ≤ 40000 := by
  have h1 := h.tot
  have h2 := h.buf
  exact ⟨by omega, fun s hs => ⟨by omega, by omega⟩⟩
theorem suc_wrap {i m : Nat} (h : m = i + 1) (hi : i ≤ 100) : wrap64 ((i : Int) + 1) = (m : Int) := by subst h; unfold wrap64; omega
theorem suc_le {i m n : Nat} (h : m = i + 1) (hi : i < n) : m ≤ n := by omega
theorem suc_meas {i m n : Nat} (h : m = i + 1) (hi : i < n) : n - (intOf (.int .i64 (m : Int))).toNat < n - (intOf (.int .i64 (i : Int))).toNat := by simp [intOf]; omega
theorem two_letters (x : Int) : ∃ U K : Nat, IntKind.u64.wrap x = (U : Int) ∧ (U : Int).tmod 2 = (K : Int) ∧ K < 2 ∧ (0 : Int) ≤ (K : Int) ∧ (K : Int) < 2 := by
  obtain ⟨U, hU⟩ : ∃ U : Nat, IntKind.u64.wrap x = (U : Int) := ⟨(IntKind.u64.wrap x).toNat, by rw [IntKind.wrap_u64]; omega⟩
  refine ⟨U, U % 2, hU, ?_, by omega, by omega, by omega⟩
  rw [Int.tmod_eq_emod_of_nonneg (by omega)]; omega
theorem letter_at (w : World) (K : Nat) (hK : K < 2) : ∃ lt : Int, (lt = 103 ∨ lt = 71) ∧ (w.alloc (.cells #[.int .i64 103, .int .i64 71] 3)).cell? ⟨w.heap.size, K, none⟩ = some (.int .i64 lt) := by
  have k : Rg.Bk w.heap.size [.int .i64 103, .int .i64 71] 3 (w.alloc (.cells #[.int .i64 103, .int .i64 71] 3)) := Rg.Bk.new rfl
  match K, hK with
  | 0, _ => exact ⟨103, .inl rfl, k.cell 0⟩
  | 1, _ => exact ⟨71, .inr rfl, k.cell 1⟩
end Go.Proofs.YtfiffbohhhehkaaGreat
