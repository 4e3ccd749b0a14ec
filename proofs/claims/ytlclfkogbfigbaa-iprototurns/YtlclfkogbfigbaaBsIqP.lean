/-
  Layer 16: a row of texts of one's own beside two drives; front.
-/
import Derived.Test.YtlclfkogbfigbaaBsIqCp
import Derived.Test.YtlclfkogbfigbaaBsMathIz
import Derived.Test.YtlclfkogbfigbaaCuAN
namespace Go.Proofs.Ytlclfkogbfigbaa
open Go.RowKit
theorem infoSt : (Try.prog.info? 9).map (fun i => (i.zero, i.size, i.bytes)) = some (some (.string ByteArray.empty), 1, 16) := by kernel_rfl
theorem infoSt' : ∃ i0, Try.prog.info? 9 = some i0 ∧ i0.zero = some (.string ByteArray.empty) ∧ i0.size = 1 ∧ i0.bytes = 16 := by
  have := infoSt
  cases h : Try.prog.info? 9 with
  | none => rw [h] at this; cases this
  | some i => rw [h] at this; simp only [Option.map_some, Option.some.injEq, Prod.mk.injEq] at this; exact ⟨i, rfl, this.1, this.2.1, this.2.2⟩
/-- append of a text to a row of one's own -/
theorem text_append {base tc n : Nat} {t : Option Addr} {l : List ByteArray} {W : World} (hl : n = l.length) (h : W.ownsRow base 9 1 (.slice t n tc) n (strE.flat l)) (x : ByteArray) (ad : Addr) (c : Nat) (hnews : ∀ j u, (strE.enc x)[j]? = some u → W.cell? (ad.add j) = some u) (hB : base ≤ W.heap.size) (hn : n ≤ 1000000) :
    ∃ g' cap' W', (Builtin.append_ #[25, 25] 25 #[.slice t n tc, .slice (some ad) 1 c]).run Try.prog W = .ok (.slice (some ⟨g', 0, none⟩) (n + 1) cap') W' ∧ W'.ownsRow base 9 1 (.slice (some ⟨g', 0, none⟩) (n + 1) cap') (n + 1) (strE.flat (l ++ [x])) ∧ W.grownBy W' (Value.slice t n tc).ownBlock ∧ ((Value.slice t n tc).ownBlock = some g' ∨ W.heap.size ≤ g') := by
  subst hl
  obtain ⟨i0, hi, hz0, hz1, hz2⟩ := infoSt'
  obtain ⟨v', W', r1, r2, r3, r4⟩ := run_append_own (P := Try.prog) W base 25 25 9 i0 _ 1 16 Try.underlying25 hi hz0 hz1 hz2 rfl (by decide) _ l.length (strE.flat l) h ad 1 c (strE.enc x) rfl hnews (strE.one x) (by unfold maxLen; omega) (by omega) hB
  have e2 : strE.flat l ++ strE.enc x = strE.flat (l ++ [x]) := by rw [strE.flat_append, strE.flat_one]
  rw [e2] at r2
  by_cases hv : Value.slice t l.length tc = .slice none 0 0
  · have hl : l = [] := by
      have : l.length = 0 := by injection hv
      exact List.eq_nil_of_length_eq_zero this
    subst hl
    injection hv with hv1 _ hv3
    subst hv1 hv3
    obtain ⟨g', cap', rest', W2, k1, k2, k3, k4⟩ := strE.append0 (P := Try.prog) W base x 25 25 i0 _ 16 Try.underlying25 hi hz0 hz1 hz2 rfl ad c hnews hB (by omega)
    have k1' : (Builtin.append_ #[25, 25] 25 #[.slice none ([] : List ByteArray).length 0, .slice (some ad) 1 c]).run Try.prog W = .ok (.slice (some ⟨g', 0, none⟩) 1 cap') W2 := k1
    rw [r1] at k1'
    cases k1'
    exact ⟨g', cap', _, r1, r2, r3, .inr k4⟩
  · obtain ⟨g, cap, rest, e, ho⟩ := Rg.El.Own.of (E := strE) h hv rfl
    injection e with e1 _ e3
    subst e1 e3
    obtain ⟨g', cap', rest', W2, k1, k2, k3, k4, k5, k6⟩ := ho.append (P := Try.prog) x 25 25 i0 _ 16 Try.underlying25 hi hz0 hz1 hz2 rfl ad c hnews hB (by omega) (by unfold maxLen; omega)
    rw [r1] at k1
    cases k1
    refine ⟨g', cap', _, r1, r2, r3, ?_⟩
    rcases k6 with rfl | k6
    · exact .inl rfl
    · exact .inr k6
theorem iarow_grown {Kp : Nat → Prop} {α : Type} {E : Rg.El α} {row : Option Nat} {W W' : World} {a : Option Addr} {l : List α} (h : ERow E W a l) (k : iKRow Kp a l) (hn : ∀ b, Kp b → some b ≠ row) (o : W.grownBy W' row) : ERow E W' a l := by
  rcases h with h | ⟨b, i, h1, h2, h3⟩
  · exact .inl h
  · rcases k with k | ⟨b', i', k1, k2⟩
    · exact .inl k
    · rw [h1] at k1
      cases k1
      exact .inr ⟨b, i, h1, Nat.lt_of_lt_of_le h2 o.size, h3.same (o.block b h2 (hn b k2))⟩
theorem IDH.grown {Kp : Nat → Prop} {row : Option Nat} {W W' : World} {d : Gp.Dr} {CS : Array Value} (h : IDH Kp W d CS) (hn : ∀ b, Kp b → some b ≠ row) (o : W.grownBy W' row) : IDH Kp W' d CS := by
  obtain ⟨p, e, h⟩ := h
  exact ⟨p, e, ⟨iarow_grown h.at_.win h.kw hn o, iarow_grown h.at_.ahead h.ka hn o, iarow_grown h.at_.queue h.kq hn o, iarow_grown h.at_.took h.kt hn o⟩, h.wcap, h.acap, h.ql, h.wl, h.kw, h.ka, h.kq, h.kt⟩
theorem iklow {Kp Kq : Nat → Prop} {α : Type} {E : Rg.El α} {W : World} {a : Option Addr} {l : List α} (h : ERow E W a l) (k : iKRow Kp a l) (hq : ∀ b, Kp b → b < W.heap.size → Kq b) : iKRow Kq a l := by
  rcases h with h | ⟨b, o, h1, h2, _⟩
  · exact .inl h
  · rcases k with k | ⟨b', o', k1, k2⟩
    · exact .inl k
    · rw [h1] at k1
      cases k1
      exact .inr ⟨b, o, h1, hq b k2 h2⟩
theorem IDH.low {Kp Kq : Nat → Prop} {W : World} {d : Gp.Dr} {CS : Array Value} (h : IDH Kp W d CS) (hq : ∀ b, Kp b → b < W.heap.size → Kq b) : IDH Kq W d CS := by
  obtain ⟨p, e, h⟩ := h
  exact ⟨p, e, h.at_, h.wcap, h.acap, h.ql, h.wl, iklow h.at_.win h.kw hq, iklow h.at_.ahead h.ka hq, iklow h.at_.queue h.kq hq, iklow h.at_.took h.kt hq⟩
theorem idh_end {Kp : Nat → Prop} {W W2 : World} {d : Gp.Dr} {CS : Array Value} {B : Nat} (h : IDH Kp W d CS) (k : Rg.Bk B CS.toList 32 W2) : (∃ a c, W2.cell? ⟨B, 11, none⟩ = some (.slice a d.ahead.length c)) ∧ W2.cell? ⟨B, 10, none⟩ = some (.int .i64 d.wants) := by
  obtain ⟨p, rfl, _⟩ := h
  exact ⟨⟨_, _, k.cell 11⟩, k.cell 10⟩
def Ip.sdB (k : Nat) : ByteArray := ⟨(Ip.sd k).toArray⟩
def Ip.said (n : Nat) : List ByteArray := (List.range n).map Ip.sdB
theorem Ip.said_len (n : Nat) : (Ip.said n).length = n := by simp [Ip.said]
theorem Ip.said_succ (n : Nat) : Ip.said (n + 1) = Ip.said n ++ [Ip.sdB n] := by simp [Ip.said, List.range_succ]
/-- which old blocks the drives' rows lie in -/
def KT (B5 B8 : Nat) (v : Value) (b : Nat) : Prop := b ≠ B5 ∧ b ≠ B8 ∧ some b ≠ v.ownBlock
/-- two drives, and a row of texts -/
structure TwI (B5 B8 base : Nat) (w wr : World) (v : Value) (i : Nat) (da db : Gp.Dr) : Prop where
  own : wr.ownsRow base 9 1 v i (strE.flat (Ip.said i))
  da : ∃ C, Rg.Bk B5 (Array.toList C) 32 wr ∧ IDH (KT B5 B8 v) wr da C
  db : ∃ C, Rg.Bk B8 (Array.toList C) 32 wr ∧ IDH (KT B5 B8 v) wr db C
  bw : Below w.heap.size w wr
  sz : base ≤ wr.heap.size
  lo : B5 < base ∧ B8 < base ∧ w.heap.size ≤ B5 ∧ w.heap.size ≤ B8 ∧ B5 ≠ B8
theorem TwI.hK {B5 B8 base i : Nat} {w wr : World} {v : Value} {da db : Gp.Dr} (h : TwI B5 B8 base w wr v i da db) (W : World) (hW : wr.heap.size ≤ W.heap.size) : ∀ b, W.heap.size ≤ b → KT B5 B8 v b := by
  intro b hb
  have h1 := h.lo
  have h2 := h.sz
  refine ⟨by omega, by omega, fun e => ?_⟩
  have := (h.own.lt b e.symm).2
  omega
theorem TwI.nA {B5 B8 base i : Nat} {w wr : World} {v : Value} {da db : Gp.Dr} (_h : TwI B5 B8 base w wr v i da db) : ¬ KT B5 B8 v B5 := fun h => h.1 rfl
theorem TwI.nB {B5 B8 base i : Nat} {w wr : World} {v : Value} {da db : Gp.Dr} (_h : TwI B5 B8 base w wr v i da db) : ¬ KT B5 B8 v B8 := fun h => h.2.1 rfl
theorem own_of {base n : Nat} {v : Value} {xs : List Value} {W W' : World} (h : W.ownsRow base 9 1 v n xs) (hb : Below W.heap.size W W') : W'.ownsRow base 9 1 v n xs := own_kept h fun g hg => hb.block g (h.lt g hg).2
theorem own_only {base n B : Nat} {v : Value} {xs : List Value} {W W' : World} (h : W.ownsRow base 9 1 v n xs) (hB : B < base) (o : Rg.Only B W W') : W'.ownsRow base 9 1 v n xs := own_kept h fun g hg => o.block g (by have := (h.lt g hg).1; omega)
theorem TwI.below {B5 B8 base i : Nat} {w wr W : World} {v : Value} {da db : Gp.Dr} (h : TwI B5 B8 base w wr v i da db) (hb : Below wr.heap.size wr W) : TwI B5 B8 base w W v i da db := by
  obtain ⟨h1, ⟨C, h2, h3⟩, ⟨D, h4, h5⟩, h6, h7, h8⟩ := h
  exact ⟨own_of h1 hb, ⟨C, h2.below hb h2.lt, h3.below hb⟩, ⟨D, h4.below hb h4.lt, h5.below hb⟩, Rg.chain h6 hb, Nat.le_trans h7 hb.size, h8⟩
/-- the first drive is laid anew -/
theorem TwI.setA {B5 B8 base i : Nat} {w wr W : World} {v : Value} {da db d : Gp.Dr} {CS : Array Value} (h : TwI B5 B8 base w wr v i da db) (hd : IDH (KT B5 B8 v) wr d CS) (k : Rg.Bk B5 CS.toList 32 W) (o : Rg.Only B5 wr W) : TwI B5 B8 base w W v i d db := by
  have n1 := h.nA
  obtain ⟨h1, _, ⟨D, h4, h5⟩, h6, h7, h8⟩ := h
  exact ⟨own_only h1 h8.1 o, ⟨CS, k, hd.only n1 o⟩, ⟨D, h4.same (o.block B8 (fun e => h8.2.2.2.2 e.symm)), h5.only n1 o⟩, h6.trans (o.bel h8.2.2.1), by rw [o.size]; exact h7, h8⟩
/-- the second drive is laid anew -/
theorem TwI.setB {B5 B8 base i : Nat} {w wr W : World} {v : Value} {da db d : Gp.Dr} {CS : Array Value} (h : TwI B5 B8 base w wr v i da db) (hd : IDH (KT B5 B8 v) wr d CS) (k : Rg.Bk B8 CS.toList 32 W) (o : Rg.Only B8 wr W) : TwI B5 B8 base w W v i da d := by
  have n1 := h.nB
  obtain ⟨h1, ⟨C, h2, h3⟩, _, h6, h7, h8⟩ := h
  exact ⟨own_only h1 h8.2.1 o, ⟨C, h2.same (o.block B5 h8.2.2.2.2), h3.only n1 o⟩, ⟨CS, k, hd.only n1 o⟩, h6.trans (o.bel h8.2.2.2.1), by rw [o.size]; exact h7, h8⟩
/-- a text more -/
theorem TwI.push {B5 B8 base i tc : Nat} {w wr : World} {t : Option Addr} {da db : Gp.Dr} (h : TwI B5 B8 base w wr (.slice t i tc) i da db) (hi : i ≤ 1000) (ad : Addr) (c : Nat) (hx : wr.cell? ad = some (.string (Ip.sdB i))) :
    ∃ g' cap' W', (Builtin.append_ #[25, 25] 25 #[.slice t i tc, .slice (some ad) 1 c]).run Try.prog wr = .ok (.slice (some ⟨g', 0, none⟩) (i + 1) cap') W' ∧ TwI B5 B8 base w W' (.slice (some ⟨g', 0, none⟩) (i + 1) cap') (i + 1) da db := by
  obtain ⟨g', cap', W', r1, r2, r3, r4⟩ := text_append (Ip.said_len i).symm h.own (Ip.sdB i) ad c (fun j u hj => by
    match j, hj with
    | 0, hj => simp [strE] at hj; subst hj; rw [show ad.add 0 = ad from rfl]; exact hx) h.sz (by omega)
  have hlt := h.own.lt
  obtain ⟨h1, ⟨C, h2, h3⟩, ⟨D, h4, h5⟩, h6, h7, h8⟩ := h
  rw [← Ip.said_succ] at r2
  have hn : ∀ b, KT B5 B8 (.slice t i tc) b → some b ≠ (Value.slice t i tc).ownBlock := fun b hb => hb.2.2
  have hq : ∀ b, KT B5 B8 (.slice t i tc) b → b < wr.heap.size → KT B5 B8 (.slice (some ⟨g', 0, none⟩) (i + 1) cap') b := fun b hb hl => ⟨hb.1, hb.2.1, fun e => by
    simp only [Value.ownBlock, Option.some.injEq] at e
    subst e
    rcases r4 with e2 | e2
    · exact hb.2.2 e2.symm
    · omega⟩
  have e5 : some B5 ≠ (Value.slice t i tc).ownBlock := fun e => by have := (hlt B5 e.symm).1; omega
  have e8 : some B8 ≠ (Value.slice t i tc).ownBlock := fun e => by have := (hlt B8 e.symm).1; omega
  have hw := h6.size
  have g3 : ∀ {d : Gp.Dr} {C : Array Value}, IDH (KT B5 B8 (.slice t i tc)) wr d C → IDH (KT B5 B8 (.slice (some ⟨g', 0, none⟩) (i + 1) cap')) W' d C := fun h => ((h.low (Kq := fun b => KT B5 B8 (.slice t i tc) b ∧ b < wr.heap.size) (fun b a l => ⟨a, l⟩)).grown (fun b hb => hn b hb.1) r3).low (fun b hb _ => hq b hb.1 hb.2)
  exact ⟨g', cap', W', r1, r2, ⟨C, h2.same (r3.block B5 h2.lt e5), g3 h3⟩, ⟨D, h4.same (r3.block B8 h4.lt e8), g3 h5⟩, ⟨by rw [← h6.os]; exact r3.os, by rw [← h6.tape]; exact r3.tape, by rw [← h6.output]; exact r3.output, Nat.le_trans hw r3.size, fun k hk => (r3.block k (Nat.lt_of_lt_of_le hk hw) (fun e => by have := (hlt k e.symm).1; omega)).trans (h6.block k hk)⟩, Nat.le_trans h7 r3.size, h8⟩
end Go.Proofs.Ytlclfkogbfigbaa
