/-
  Layer 15: what a step of a pair does: bytes come.
-/
import Derived.Test.YtfiffbohhhehkaaGreatBuLawA
namespace Go.Proofs.YtfiffbohhhehkaaGreat
open Go.RowKit
/-- what a call that holds a block B leaves of all others -/
structure Oth (B : Nat) (W W' : World) : Prop where
  os : W'.os = W.os
  tape : W'.tape = W.tape
  output : W'.output = W.output
  size : W.heap.size ≤ W'.heap.size
  block : ∀ k, k < W.heap.size → k ≠ B → W'.heap[k]? = W.heap[k]?
theorem Oth.refl (B : Nat) (W : World) : Oth B W W := ⟨rfl, rfl, rfl, Nat.le_refl _, fun _ _ _ => rfl⟩
theorem Oth.of {B : Nat} {W W' : World} (h : Below W.heap.size W W') : Oth B W W' := ⟨h.os, h.tape, h.output, h.size, fun k hk _ => h.block k hk⟩
theorem Oth.only {B : Nat} {W W' : World} (h : Rg.Only B W W') : Oth B W W' := ⟨h.os, h.tape, h.output, Nat.le_of_eq h.size.symm, fun k _ hk => h.block k hk⟩
theorem Oth.trans {B : Nat} {a b c : World} (h : Oth B a b) (k : Oth B b c) : Oth B a c := ⟨k.os.trans h.os, k.tape.trans h.tape, k.output.trans h.output, Nat.le_trans h.size k.size, fun i hi hB => (k.block i (Nat.lt_of_lt_of_le hi h.size) hB).trans (h.block i hi hB)⟩
theorem Oth.bel {B base : Nat} {W W' : World} (h : Oth B W W') (h1 : base ≤ B) (h2 : base ≤ W.heap.size) : Below base W W' := ⟨h.os, h.tape, h.output, h.size, fun k hk => h.block k (by omega) (by omega)⟩
theorem Oth.bk {B b : Nat} {C : List Value} {T : TypeId} {W W' : World} (h : Oth B W W') (k : Rg.Bk b C T W) (hb : b ≠ B) : Rg.Bk b C T W' := k.same (h.block b k.lt hb)
/-- the rest of a pair's cells -/
def pR (x0 x1 s0 s1 c0 c1 : List UInt8) (t0 t1 : Int) : List Value := [.string ⟨x0.toArray⟩, .string ⟨x1.toArray⟩, .string ⟨s0.toArray⟩, .string ⟨s1.toArray⟩, .string ⟨c0.toArray⟩, .string ⟨c1.toArray⟩, .int .i64 t0, .int .i64 t1, .slice none 0 0, .slice none 0 0, .bool false]
theorem exec_load_any {Q : Program} {ρ : Operand → Value} {o : Oper} {w : World} (t : TypeId) (x : Operand) (ho : o.op = .load t x) {B i : Nat} (hx : ρ x = .pointer (some ⟨B, i, none⟩)) {v : Value} (hrun : (loadVar t ⟨B, i, none⟩).run Q w = .ok v w) : (execOp ρ o).run Q w = .ok (.value v) w := by
  simp [execOp, ho, hx, Instr.loadAt, Instr.sureAddr, hrun, Result.andThen]
theorem step_store_any {Q : Program} {ops : Array Oper} {o : Oper} {a : Act} {w w' : World} {K : Act → World → Prop} {R : Exit → Act → World → Prop} {E : Prop} (hg : o.guard = none) (x y : Operand) (t : TypeId)
    (ho : o.op = .store t x y) {B i : Nat} (hx : a.eval x = .pointer (some ⟨B, i, none⟩)) {v : Value} (hy : a.eval y = v) (hrun : (storeVar t ⟨B, i, none⟩ v).run Q w = .ok () w') (h : K (a.put o.dst undef) w') : if Region.wanted o (yielded ops a.tmps) = true then Oper.wp Q o a w K R else E := by
  have hw : Region.wanted o (yielded ops a.tmps) = true := by simp [Region.wanted, hg]
  rw [if_pos hw]
  unfold Oper.wp
  simp [execOp, ho, hx, hy, Instr.storeAt, Instr.sureAddr, hrun, Result.andThen, Oper.upon]
  exact h
theorem dh_took {Kp : Nat → Prop} {W : World} {d : Gp.Dr} {CS : Array Value} (h : DH Kp W d CS) : ∃ ta tc, CS.toList[17]? = some (.slice ta d.took.length tc) ∧ ERow spE W ta d.took := by
  obtain ⟨p, rfl, h⟩ := h
  exact ⟨p.t, p.tc, rfl, h.at_.took⟩
theorem pcA {Kp : Nat → Prop} {W w : World} {B : Nat} {a : Gp.Dr} {CA CB : Array Value} {R : List Value} (h : DH Kp W a CA) (k : Rg.Bk B (PC CA CB R) 52 w) : (loadVar 29 ⟨B, 0, none⟩).run Tryz.prog w = .ok (.agg CA) w := DH.mload (X := []) h k
theorem pcB {Kp : Nat → Prop} {W w : World} {B : Nat} {b : Gp.Dr} {CA CB : Array Value} {R : List Value} (h : DH Kp W b CB) (ha : CA.size = 18) (k : Rg.Bk B (PC CA CB R) 52 w) : (loadVar 29 ⟨B, 18, none⟩).run Tryz.prog w = .ok (.agg CB) w := by
  have := DH.mload (X := CA.toList) h k
  rw [Array.length_toList, ha] at this
  exact this
theorem pc_cell {w : World} {B : Nat} {CA CB : Array Value} {R : List Value} (k : Rg.Bk B (PC CA CB R) 52 w) (ha : CA.size = 18) (hb : CB.size = 18) (i : Nat) : w.cell? ⟨B, 36 + i, none⟩ = R[i]? := by
  rw [k.cell]
  unfold PC
  rw [List.getElem?_append_right (by rw [Array.length_toList, ha]; omega), List.getElem?_append_right (by rw [Array.length_toList, Array.length_toList, ha, hb]; omega), Array.length_toList, Array.length_toList, ha, hb]
  congr 1
  omega
/-- what stands behind Feed, within a step -/
def S5 (Kp : Nat → Prop) (B : Nat) (w : World) (a b : Gp.Dr) (CA CB : Array Value) (R : List Value) (r : Gp.Dr × List UInt8 × List UInt8) (v6 v7 v8 : Value) (wx : World) : Prop := ∃ B6 C5 a5 l5, v6 = .pointer (some ⟨B6, 0, none⟩) ∧ v7 = .string ⟨r.2.1.toArray⟩ ∧ v8 = .slice a5 (List.length l5) l5.length ∧ Hid (B6 ≠ B) ∧ Hid (Rg.Bk B6 (Array.toList C5) 29 wx) ∧ Hid (DH Kp wx r.1 C5) ∧ Hid (PB Kp B wx a b CA CB R) ∧ Hid (Oth B w wx) ∧ Hid (l5.length ≤ 1 ∧ cats l5 = r.2.2 ∧ ERow pcE wx a5 l5 ∧ KRow Kp a5 l5)
theorem S5.mk1 {Kp : Nat → Prop} {B : Nat} {w w2 w3 w4 : World} {a b : Gp.Dr} {CA CB C5 : Array Value} {R : List Value} {r : Gp.Dr × List UInt8 × List UInt8} {a5 : Option Addr} {l5 : List Gp.Pc} (hP : PB Kp B w2 a b CA CB R) (b2 : Below w.heap.size w w2) (b3 : Below w2.heap.size w2 w3) (b4 : Below w3.heap.size w3 w4) (k : Rg.Bk w3.heap.size C5.toList 29 w4) (hd : DH Kp w4 r.1 C5) (hl : l5.length ≤ 1 ∧ cats l5 = r.2.2 ∧ ERow pcE w3 a5 l5 ∧ KRow Kp a5 l5) :
    S5 Kp B w a b CA CB R r (.pointer (some ⟨w3.heap.size, 0, none⟩)) (.string ⟨r.2.1.toArray⟩) (.slice a5 l5.length l5.length) w4 := by
  have b24 := Rg.chain b3 b4
  exact ⟨_, C5, a5, l5, rfl, rfl, rfl, (by show _ ≠ _; have := hP.bk.lt; have := b3.size; omega), k, hd, hP.below b24, Oth.of (Rg.chain b2 b24), hl.1, hl.2.1, hl.2.2.1.below b4, hl.2.2.2⟩
theorem krow_fresh {Kp : Nat → Prop} {α : Type} {E : Rg.El α} {W : World} {a : Option Addr} {l : List α} (h : ERow E W a l) (k : KRow Kp a l) : KRow (fun x => Kp x ∧ x ≠ W.heap.size) a l := by
  rcases h with h | ⟨b, o, h1, h2, _⟩
  · exact .inl h
  · rcases k with k | ⟨b', o', k1, k2⟩
    · exact .inl k
    · rw [h1] at k1
      cases k1
      exact .inr ⟨b, o, h1, k2, by omega⟩
theorem krow_weak {Kp Kq : Nat → Prop} {α : Type} {a : Option Addr} {l : List α} (k : KRow Kp a l) (h : ∀ x, Kp x → Kq x) : KRow Kq a l := by
  rcases k with k | ⟨b, o, k1, k2⟩
  · exact .inl k
  · exact .inr ⟨b, o, k1, h b k2⟩
theorem DH.fresh {Kp : Nat → Prop} {W : World} {d : Gp.Dr} {CS : Array Value} (h : DH Kp W d CS) : DH (fun x => Kp x ∧ x ≠ W.heap.size) W d CS := by
  obtain ⟨p, e, h⟩ := h
  exact ⟨p, e, h.at_, h.wcap, h.ql, krow_fresh h.at_.win h.kw, krow_fresh h.at_.ahead h.ka, krow_fresh h.at_.queue h.kq, krow_fresh h.at_.took h.kt⟩
theorem DH.weak {Kp Kq : Nat → Prop} {W : World} {d : Gp.Dr} {CS : Array Value} (h : DH Kp W d CS) (hk : ∀ x, Kp x → Kq x) : DH Kq W d CS := by
  obtain ⟨p, e, h⟩ := h
  exact ⟨p, e, h.at_, h.wcap, h.ql, krow_weak h.kw hk, krow_weak h.ka hk, krow_weak h.kq hk, krow_weak h.kt hk⟩
theorem S5.mk2 {Kp : Nat → Prop} {B : Nat} {w w2 w4 w5 : World} {a b : Gp.Dr} {CA CB C5 : Array Value} {R : List Value} {ob : Obj} {r : Gp.Dr × List UInt8 × List UInt8} {a5 : Option Addr} {l5 : List Gp.Pc} (hP : PB Kp B w2 a b CA CB R) (b2 : Below w.heap.size w w2) (b4 : Below (w2.alloc ob).heap.size (w2.alloc ob) w4) (o5 : Rg.Only w2.heap.size w4 w5) (k : Rg.Bk w2.heap.size C5.toList 29 w5) (hd : DH (fun x => Kp x ∧ x ≠ w2.heap.size) w4 r.1 C5) (hl : l5.length ≤ 1 ∧ cats l5 = r.2.2 ∧ ERow pcE w4 a5 l5 ∧ KRow (fun x => Kp x ∧ x ≠ w2.heap.size) a5 l5) :
    S5 Kp B w a b CA CB R r (.pointer (some ⟨w2.heap.size, 0, none⟩)) (.string ⟨r.2.1.toArray⟩) (.slice a5 l5.length l5.length) w5 := by
  have b24 := Rg.chain (Rg.al1 w2 ob) b4
  have hn : ¬ (fun x => Kp x ∧ x ≠ w2.heap.size) w2.heap.size := fun h => h.2 rfl
  have hB : B ≠ w2.heap.size := by have := hP.bk.lt; omega
  have hw : ∀ x, (fun x => Kp x ∧ x ≠ w2.heap.size) x → Kp x := fun x h => h.1
  refine ⟨_, C5, a5, l5, rfl, rfl, rfl, (fun e => hB e.symm), k, (hd.only hn o5).weak hw, ⟨(hP.bk.below b24 hP.bk.lt).same (o5.block B hB), ((hP.ha.fresh.below b24).only hn o5).weak hw, ((hP.hb.fresh.below b24).only hn o5).weak hw, hP.no⟩, ?_, hl.1, hl.2.1, erow_only hl.2.2.1 hl.2.2.2 hn o5, krow_weak hl.2.2.2 hw⟩
  have h1 : Below w.heap.size w w5 := (Rg.chain b2 b24).trans (o5.bel b2.size)
  exact Oth.of h1
/-- what a step leaves -/
def StPost (Kp : Nat → Prop) (B : Nat) (w : World) (a b : Gp.Dr) (R : List Value) (e : Ending) (w' : World) : Prop := ∃ CA CB, e = .returned (.tuple #[]) ∧ Hid (PB Kp B w' a b CA CB R) ∧ Hid (Oth B w w')
theorem ext_nil {X : ByteArray} {n : Nat} (h : X.size = n) : X.extract n X.size = ⟨([] : List UInt8).toArray⟩ := by
  rw [h]
  exact ByteArray.extract_eq_empty_iff.2 (by omega)
theorem at_wrap {t : Int} {x : List UInt8} {n : Nat} (h : 0 ≤ t ∧ t ≤ 1099511627776) (_hn : n = x.length) (h2 : n ≤ 40000) : wrap64 (t + (n : Int)) = t + n := by unfold wrap64; omega
theorem at_wrap2 {t : Int} {x : List UInt8} {n : Nat} (h : 0 ≤ t ∧ t ≤ 1099511627776) (_hn : n = x.length) (h2 : n ≤ 40000) : IntKind.i64.wrap (t + (n : Int)) = t + n := by rw [IntKind.wrap_i64]; omega
theorem fit_y {y s : List UInt8} (h : y.length + s.length ≤ 20000) : ¬ (20000 : Int) < (((y ++ s).length : Nat) : Int) := by rw [List.length_append]; omega
set_option maxHeartbeats 4000000 in
set_option maxRecDepth 100000 in
theorem took_goA (B : Nat) (l : List (Int × Int)) (n tc : Nat) (ta : Option Addr) (w : World) (hn : Hid (n = l.length)) (c17 : w.cell? ⟨B, 17, none⟩ = some (.slice ta n tc)) (c44 : w.cell? ⟨B, 44, none⟩ = some (.slice none 0 0)) (hr : Hid (ERow spE w ta l)) (hB : Hid (B < w.heap.size)) (hn1 : Hid (n ≤ 1000000)) :
    Calls Tryz.prog 52 #[.pointer (some ⟨B, 0, none⟩), .int .i64 0] w fun e w' => e = .returned (.tuple #[]) ∧ Below w.heap.size w w' := by
  go_enter Tryz.func52, Tryz.ntmps52
  go_wp2
  go_loopw [16] (fun vi wr => ∃ i : Nat, i ≤ n ∧ vi = .int .i64 i ∧ Hid (Below w.heap.size w wr)) (fun vi _ => n - (intOf vi).toNat)
  case atStart => exact ⟨0, Nat.zero_le _, rfl, Below.refl _ _⟩
  case round =>
    obtain ⟨i, hin, rfl, hbw⟩ := hrel
    by_cases hlt : i < n
    · have hil : i < l.length := by rw [← hn.out]; exact hlt
      obtain ⟨b1, o1, rfl, _, _, y1⟩ := (hr.out.below hbw.out).cell hil
      replace y1 := sp_at y1
      generalize l[i] = x at y1
      obtain ⟨x1, x2⟩ := x
      obtain ⟨c0, c1⟩ := y1
      have em : spE.m = 2 := rfl
      rw [em] at c0 c1
      dsimp only at c0 c1
      have iz0 : (0 : Int) ≤ (i : Int) := by omega
      have iz1 : (i : Int) < (n : Int) := by omega
      have hi2 : Hid (wrap64 ((i : Int) + 1) = ((i + 1 : Nat) : Int)) := by show _ = _; have := hn1.out; unfold wrap64; omega
      have b2 := Rg.hid (Rg.al1 wr (.cells #[.int .i64 x1, .int .i64 x2] 74))
      have d44 : wr.cell? ⟨B, 44, none⟩ = some (.slice none 0 0) := by rw [← c44]; exact World.cell?_of_block (a := ⟨B, 44, none⟩) (hbw.out.block B hB.out)
      have e44 : (wr.alloc (.cells #[.int .i64 x1, .int .i64 x2] 74)).cell? ⟨B, 44, none⟩ = some (.slice none 0 0) := by rw [← d44]; exact World.cell?_of_block (a := ⟨B, 44, none⟩) (b2.out.block B (Nat.lt_of_lt_of_le hB.out hbw.out.size))
      clear em hil d44
      go_wp2
      go_loopw [27] (fun vj wx => vj = .int .i64 0 ∧ Hid (Below w.heap.size w wx)) (fun _ _ => 0)
      case atStart => exact ⟨rfl, Rg.chain hbw.out b2.out⟩
      case round =>
        obtain ⟨rfl, hbx⟩ := hrel
        go_wp2
        go_roundw
        case rel => exact ⟨i + 1, by omega, by rw [hi2.out], hbx⟩
        case measure => rw [hi2.out]; simp [intOf]; clear hi2; omega
    · have hie : i = n := by omega
      subst hie
      go_wp2
      go_end0
      exact ⟨rfl, hbw.out⟩
set_option maxHeartbeats 4000000 in
set_option maxRecDepth 100000 in
theorem took_goB (B : Nat) (l : List (Int × Int)) (n tc : Nat) (ta : Option Addr) (w : World) (hn : Hid (n = l.length)) (c17 : w.cell? ⟨B, 35, none⟩ = some (.slice ta n tc)) (c44 : w.cell? ⟨B, 45, none⟩ = some (.slice none 0 0)) (hr : Hid (ERow spE w ta l)) (hB : Hid (B < w.heap.size)) (hn1 : Hid (n ≤ 1000000)) :
    Calls Tryz.prog 52 #[.pointer (some ⟨B, 0, none⟩), .int .i64 1] w fun e w' => e = .returned (.tuple #[]) ∧ Below w.heap.size w w' := by
  go_enter Tryz.func52, Tryz.ntmps52
  go_wp2
  go_loopw [16] (fun vi wr => ∃ i : Nat, i ≤ n ∧ vi = .int .i64 i ∧ Hid (Below w.heap.size w wr)) (fun vi _ => n - (intOf vi).toNat)
  case atStart => exact ⟨0, Nat.zero_le _, rfl, Below.refl _ _⟩
  case round =>
    obtain ⟨i, hin, rfl, hbw⟩ := hrel
    by_cases hlt : i < n
    · have hil : i < l.length := by rw [← hn.out]; exact hlt
      obtain ⟨b1, o1, rfl, _, _, y1⟩ := (hr.out.below hbw.out).cell hil
      replace y1 := sp_at y1
      generalize l[i] = x at y1
      obtain ⟨x1, x2⟩ := x
      obtain ⟨c0, c1⟩ := y1
      have em : spE.m = 2 := rfl
      rw [em] at c0 c1
      dsimp only at c0 c1
      have iz0 : (0 : Int) ≤ (i : Int) := by omega
      have iz1 : (i : Int) < (n : Int) := by omega
      have hi2 : Hid (wrap64 ((i : Int) + 1) = ((i + 1 : Nat) : Int)) := by show _ = _; have := hn1.out; unfold wrap64; omega
      have b2 := Rg.hid (Rg.al1 wr (.cells #[.int .i64 x1, .int .i64 x2] 74))
      have d44 : wr.cell? ⟨B, 45, none⟩ = some (.slice none 0 0) := by rw [← c44]; exact World.cell?_of_block (a := ⟨B, 45, none⟩) (hbw.out.block B hB.out)
      have e44 : (wr.alloc (.cells #[.int .i64 x1, .int .i64 x2] 74)).cell? ⟨B, 45, none⟩ = some (.slice none 0 0) := by rw [← d44]; exact World.cell?_of_block (a := ⟨B, 45, none⟩) (b2.out.block B (Nat.lt_of_lt_of_le hB.out hbw.out.size))
      clear em hil d44
      go_wp2
      go_loopw [27] (fun vj wx => vj = .int .i64 0 ∧ Hid (Below w.heap.size w wx)) (fun _ _ => 0)
      case atStart => exact ⟨rfl, Rg.chain hbw.out b2.out⟩
      case round =>
        obtain ⟨rfl, hbx⟩ := hrel
        go_wp2
        go_roundw
        case rel => exact ⟨i + 1, by omega, by rw [hi2.out], hbx⟩
        case measure => rw [hi2.out]; simp [intOf]; clear hi2; omega
    · have hie : i = n := by omega
      subst hie
      go_wp2
      go_end0
      exact ⟨rfl, hbw.out⟩
theorem took_anyA {Kp : Nat → Prop} {B : Nat} {W : World} {a b : Gp.Dr} {CA CB : Array Value} {x0 x1 s0 s1 c0 c1 : List UInt8} {t0 t1 : Int} (h : PB Kp B W a b CA CB (pR x0 x1 s0 s1 c0 c1 t0 t1)) (hk : a.took.length ≤ 1000000) : Calls Tryz.prog 52 #[.pointer (some ⟨B, 0, none⟩), .int .i64 0] W fun e w' => e = .returned (.tuple #[]) ∧ Below W.heap.size W w' := by
  obtain ⟨ta, tc, h1, h2⟩ := dh_took h.ha
  refine took_goA B a.took _ tc ta W rfl ?_ (h.cell 8) h2 h.bk.lt hk
  rw [h.bk.cell]
  unfold PC
  rw [List.getElem?_append_left (by rw [Array.length_toList, h.ha.size]; omega)]
  exact h1
theorem took_anyB {Kp : Nat → Prop} {B : Nat} {W : World} {a b : Gp.Dr} {CA CB : Array Value} {x0 x1 s0 s1 c0 c1 : List UInt8} {t0 t1 : Int} (h : PB Kp B W a b CA CB (pR x0 x1 s0 s1 c0 c1 t0 t1)) (hk : b.took.length ≤ 1000000) : Calls Tryz.prog 52 #[.pointer (some ⟨B, 0, none⟩), .int .i64 1] W fun e w' => e = .returned (.tuple #[]) ∧ Below W.heap.size W w' := by
  obtain ⟨ta, tc, h1, h2⟩ := dh_took h.hb
  refine took_goB B b.took _ tc ta W rfl ?_ (h.cell 9) h2 h.bk.lt hk
  rw [h.bk.cell]
  unfold PC
  rw [List.getElem?_append_right (by rw [Array.length_toList, h.ha.size]; omega), List.getElem?_append_left (by rw [Array.length_toList, Array.length_toList, h.ha.size, h.hb.size]; omega), Array.length_toList, h.ha.size]
  exact h1
end Go.Proofs.YtfiffbohhhehkaaGreat
