/-
  Layer 8: the document's Tick of any chat; ChatPlays.
-/
import Derived.Test.YteepfifglafjmaaDoorCq5
namespace Go.Proofs.YteepfifglafjmaaDoor
open Go.RowKit

/-- the document's Tick -/
theorem rtick_any (v0 : Value) (c0 : Ch.Co) (w : World) {l : List Ch.St} (hN : Ch.Near l) (hc : Ch.Pl l c0) (hA : CAt w v0 c0) : Calls Tryd.prog 15 #[v0] w fun e w' => GPost w (Ch.tick c0) e w' := by
  have hT := pl_tok hN hc
  obtain ⟨sa, sc, vs, rfl, hrow, hsts, hsc⟩ := hA
  have hst := hc.pi.steps
  have hl : c0.steps.length ≤ 1000 := by rw [hst]; have := hN.len; omega
  have hwl : ∀ x ∈ c0.steps, x.wants.length ≤ 1000000 ∧ x.nudge.length ≤ 1000000 := fun x hx => by
    rw [hst] at hx
    have h1 := (hN.wants x hx).1; have h2 := (hN.nudge x hx).1
    omega
  have HO : ∀ W, Below w.heap.size w W → Calls Tryd.prog 26 #[.agg #[.slice sa c0.steps.length sc, .int .i64 c0.step, .int .i64 c0.want, .string ⟨c0.seen.toArray⟩, .int .i64 c0.wait, .int .i64 c0.pat, .bool c0.over, .bool c0.failed]] W fun e w' => OPost W c0.steps.length c0.steps c0.step c0.want ⟨c0.seen.toArray⟩ c0.wait c0.pat c0.over c0.failed e w' := fun W hW => rown_any sa c0.steps.length sc vs c0.steps c0.step c0.want ⟨c0.seen.toArray⟩ c0.wait c0.pat c0.over c0.failed W rfl hl hwl (.inr (hrow.below hW).1) (hsts.below hW).ls
  unfold Ch.tick
  by_cases hd : c0.over = true ∨ c0.failed = true
  · rw [if_pos hd]
    exact rtick_done sa c0.steps.length sc c0.step c0.want ⟨c0.seen.toArray⟩ c0.wait c0.pat c0.over c0.failed c0.steps w (Rg.hid rfl) (by rcases hd with h | h <;> simp [h]) HO
  · rw [if_neg hd]
    rcases hc.pd with h1 | h1 | ⟨ho, hf, ⟨k, hk, hkl⟩, _, _⟩
    · exact absurd (.inl h1) hd
    · exact absurd (.inr h1) hd
    have hww := hc.pi.wait
    have hwn := hc.pi.want
    have hse := hc.pi.seen
    obtain ⟨xs, cstep, cwant, cseenl, cwait, cpat, cover, cfailed⟩ := c0
    dsimp only at *
    subst hk ho hf
    have hkx : k < xs.length := by rw [hst]; exact hkl
    have hw1 : IntKind.i64.wrap (cwait + 1) = cwait + 1 := by rw [IntKind.wrap_i64]; omega
    by_cases hle : cwait + 1 ≤ cpat
    · rw [if_pos hle]
      exact rtick_wait sa xs.length sc k cwant ⟨cseenl.toArray⟩ cwait cpat (cwait + 1) xs w (Rg.hid rfl) hkx hw1 hle HO
    · rw [if_neg hle]
      have hat : Ch.at_ ⟨xs, (k : Int), cwant, cseenl, cwait, cpat, false, false⟩ = xs[k] := by
        unfold Ch.at_
        rw [Int.toNat_natCast, List.getD_eq_getElem?_getD, List.getElem?_eq_getElem hkx]; rfl
      by_cases hm : 0 ≤ cwant ∧ cwant < (xs[k].nudge.length : Int)
      · obtain ⟨m, rfl⟩ := Int.eq_ofNat_of_zero_le hm.1
        have hml : m < xs[k].nudge.length := by omega
        have hno : Ch.nudgeOf ⟨xs, (k : Int), (m : Int), cseenl, cwait, cpat, false, false⟩ = some xs[k].nudge[m] := by
          unfold Ch.nudgeOf
          rw [if_pos (by dsimp only; omega), hat, if_pos hm, Int.toNat_natCast, List.getD_eq_getElem?_getD, List.getElem?_eq_getElem hml]; rfl
        rw [hno]
        have hs := nudge_size hT hno
        have hlen : (Ch.goOn ⟨xs, (k : Int), (m : Int) + 1, cseenl, 0, cpat, false, false⟩).2.length ≤ (xs.length + 1) * 100000 := by
          have := Ch.run_len 100000 (xs.length + 1) ⟨xs, (k : Int), (m : Int) + 1, cseenl, 0, cpat, false, false⟩ [] hT.ok.send
          simpa [Ch.goOn] using this
        refine rtick_go sa xs.length sc k m (m + 1) ⟨cseenl.toArray⟩ cwait cpat (cwait + 1) xs w (Rg.hid rfl) hkx hw1 (Rg.hid rfl) (by omega) xs[k].nudge[m] hle (fun h => ⟨hml, rfl⟩) _ (by omega) HO (fun W a7 c7 vs7 hW h1 h2 h3 => ?_)
        have := rrun_any (.agg (CC a7 xs.length c7 k ((m : Int) + 1) ⟨cseenl.toArray⟩ 0 cpat false false).toArray) ⟨xs, (k : Int), (m : Int) + 1, cseenl, 0, cpat, false, false⟩ k W ⟨a7, c7, vs7, rfl, h1, h2, h3⟩ hl rfl (by rw [hst]; exact Nat.le_of_lt hkl) (by show cseenl.length ≤ _; omega) (fun x hx => by rw [hst] at hx; have := hN.send x hx; omega) (fun x hx t ht => by rw [hst] at hx; have := (hN.wants x hx).2 t ht; omega) rfl rfl
        exact this.mono fun e w' q => q.ex
      · have hno : Ch.nudgeOf ⟨xs, (k : Int), cwant, cseenl, cwait, cpat, false, false⟩ = none := by
          unfold Ch.nudgeOf
          rw [if_pos (by dsimp only; omega), hat, if_neg hm]
        rw [hno]
        exact rtick_fail sa xs.length sc k cwant ⟨cseenl.toArray⟩ cwait cpat (cwait + 1) xs w (Rg.hid rfl) hkx hw1 hle (fun _ => hm) HO

/-- two chats that are one -/
structure PAt (w : World) (A B : Nat) (ck : Ch.Co) (W : World) : Prop where
  bel : Below w.heap.size w W
  low : w.heap.size ≤ A ∧ w.heap.size ≤ B ∧ A ≠ B
  a : ∃ C, Rg.Bk A C 31 W ∧ CAt W (.agg C.toArray) ck
  b : ∃ C, Rg.Bk B C 31 W ∧ CAt W (.agg C.toArray) ck
/-- with its cells named -/
theorem PAt.ex {w : World} {A B : Nat} {ck : Ch.Co} {W : World} (h : PAt w A B ck W) : ∃ (sa1 : Option Addr) (sc1 : Nat) (sa2 : Option Addr) (sc2 sn : Nat) (cstep cwant : Int) (cseen : ByteArray) (cwait cpat : Int) (cover cfailed : Bool), Rg.Bk A [.slice sa1 sn sc1, .int .i64 cstep, .int .i64 cwant, .string cseen, .int .i64 cwait, .int .i64 cpat, .bool cover, .bool cfailed] 31 W ∧ CAt W (.agg #[.slice sa1 sn sc1, .int .i64 cstep, .int .i64 cwant, .string cseen, .int .i64 cwait, .int .i64 cpat, .bool cover, .bool cfailed]) ck ∧ Rg.Bk B [.slice sa2 sn sc2, .int .i64 cstep, .int .i64 cwant, .string cseen, .int .i64 cwait, .int .i64 cpat, .bool cover, .bool cfailed] 31 W ∧ CAt W (.agg #[.slice sa2 sn sc2, .int .i64 cstep, .int .i64 cwant, .string cseen, .int .i64 cwait, .int .i64 cpat, .bool cover, .bool cfailed]) ck := by
  obtain ⟨C1, k1, h1⟩ := h.a
  obtain ⟨C2, k2, h2⟩ := h.b
  have g1 := h1
  have g2 := h2
  obtain ⟨sa1, sc1, vs1, e1, -⟩ := h1
  obtain ⟨sa2, sc2, vs2, e2, -⟩ := h2
  have e1' : C1 = CC sa1 ck.steps.length sc1 ck.step ck.want ⟨ck.seen.toArray⟩ ck.wait ck.pat ck.over ck.failed := by
    have := congrArg Array.toList (Value.agg.inj e1); simpa using this
  have e2' : C2 = CC sa2 ck.steps.length sc2 ck.step ck.want ⟨ck.seen.toArray⟩ ck.wait ck.pat ck.over ck.failed := by
    have := congrArg Array.toList (Value.agg.inj e2); simpa using this
  subst e1' e2'
  exact ⟨sa1, sc1, sa2, sc2, ck.steps.length, ck.step, ck.want, ⟨ck.seen.toArray⟩, ck.wait, ck.pat, ck.over, ck.failed, k1, g1, k2, g2⟩
end Go.Proofs.YteepfifglafjmaaDoor
