/-
  Layer 16: what a step of a pair does: bytes come.
-/
import Derived.Test.YtlclfkogbfigbaaGreatBsIqG
import Derived.Test.YtlclfkogbfigbaaGreatBsPq4
namespace Go.Proofs.YtlclfkogbfigbaaGreat
open Go.RowKit
/-- the rest of a pair's cells: what is under way, how many bytes came -/
def ipR (x0 x1 : List UInt8) (t0 t1 : Int) : List Value := [.string ⟨x0.toArray⟩, .string ⟨x1.toArray⟩, .string ⟨#[]⟩, .string ⟨#[]⟩, .string ⟨#[]⟩, .string ⟨#[]⟩, .string ⟨#[]⟩, .string ⟨#[]⟩, .string ⟨#[]⟩, .string ⟨#[]⟩, .int .i64 t0, .int .i64 t1, .slice none 0 0, .slice none 0 0, .bool false]
theorem idh_took {Kp : Nat → Prop} {W : World} {d : Gp.Dr} {CS : Array Value} (h : IDH Kp W d CS) : ∃ ta tc, CS.toList[17]? = some (.slice ta d.took.length tc) ∧ ERow spE W ta d.took := by
  obtain ⟨p, rfl, h⟩ := h
  exact ⟨p.t, p.tc, rfl, h.at_.took⟩
theorem ipcA {Kp : Nat → Prop} {W w : World} {B : Nat} {a : Gp.Dr} {CA CB : Array Value} {R : List Value} (h : IDH Kp W a CA) (k : Rg.Bk B (IPC2 CA CB R) 54 w) : (loadVar 29 ⟨B, 0, none⟩).run Tryz.prog w = .ok (.agg CA) w := IDH.mload (X := []) h k
theorem ipcB {Kp : Nat → Prop} {W w : World} {B : Nat} {b : Gp.Dr} {CA CB : Array Value} {R : List Value} (h : IDH Kp W b CB) (ha : CA.size = 18) (k : Rg.Bk B (IPC2 CA CB R) 54 w) : (loadVar 29 ⟨B, 18, none⟩).run Tryz.prog w = .ok (.agg CB) w := by
  have := IDH.mload (X := CA.toList) h k
  rw [Array.length_toList, ha] at this
  exact this
theorem ipc_cell {w : World} {B : Nat} {CA CB : Array Value} {R : List Value} (k : Rg.Bk B (IPC2 CA CB R) 54 w) (ha : CA.size = 18) (hb : CB.size = 18) (i : Nat) : w.cell? ⟨B, 36 + i, none⟩ = R[i]? := by
  rw [k.cell]
  unfold IPC2
  rw [List.getElem?_append_right (by rw [Array.length_toList, ha]; omega), List.getElem?_append_right (by rw [Array.length_toList, Array.length_toList, ha, hb]; omega), Array.length_toList, Array.length_toList, ha, hb]
  congr 1
  omega
/-- what stands behind Feed, within a step -/
def IS5 (Kp : Nat → Prop) (B : Nat) (w : World) (a b : Gp.Dr) (CA CB : Array Value) (R : List Value) (r : Gp.Dr × List UInt8 × List Gp.Pc) (v6 v7 v8 : Value) (wx : World) : Prop := ∃ B6 C5 a5 c5, v6 = .pointer (some ⟨B6, 0, none⟩) ∧ v7 = .string ⟨r.2.1.toArray⟩ ∧ v8 = .slice a5 0 c5 ∧ Hid (B6 ≠ B) ∧ Hid (Rg.Bk B6 (Array.toList C5) 29 wx) ∧ Hid (IDH Kp wx r.1 C5) ∧ Hid (IPB Kp B wx a b CA CB R) ∧ Hid (Oth B w wx)
theorem IS5.mk1 {Kp : Nat → Prop} {B : Nat} {w w2 w3 w4 : World} {a b : Gp.Dr} {CA CB C5 : Array Value} {R : List Value} {r : Gp.Dr × List UInt8 × List Gp.Pc} {a5 : Option Addr} {c5 : Nat} (hP : IPB Kp B w2 a b CA CB R) (b2 : Below w.heap.size w w2) (b3 : Below w2.heap.size w2 w3) (b4 : Below w3.heap.size w3 w4) (k : Rg.Bk w3.heap.size C5.toList 29 w4) (hd : IDH Kp w4 r.1 C5) (hl : r.2.2 = []) :
    IS5 Kp B w a b CA CB R r (.pointer (some ⟨w3.heap.size, 0, none⟩)) (.string ⟨r.2.1.toArray⟩) (.slice a5 (Ip.join r.2.2).length c5) w4 := by
  have b24 := Rg.chain b3 b4
  exact ⟨_, C5, a5, c5, rfl, rfl, by rw [hl]; rfl, (by show _ ≠ _; have := hP.bk.lt; have := b3.size; omega), k, hd, hP.below b24, Oth.of (Rg.chain b2 b24)⟩
theorem ikrow_fresh {Kp : Nat → Prop} {α : Type} {E : Rg.El α} {W : World} {a : Option Addr} {l : List α} (h : ERow E W a l) (k : iKRow Kp a l) : iKRow (fun x => Kp x ∧ x ≠ W.heap.size) a l := by
  rcases h with h | ⟨b, o, h1, h2, _⟩
  · exact .inl h
  · rcases k with k | ⟨b', o', k1, k2⟩
    · exact .inl k
    · rw [h1] at k1
      cases k1
      exact .inr ⟨b, o, h1, k2, by omega⟩
theorem ikrow_weak {Kp Kq : Nat → Prop} {α : Type} {a : Option Addr} {l : List α} (k : iKRow Kp a l) (h : ∀ x, Kp x → Kq x) : iKRow Kq a l := by
  rcases k with k | ⟨b, o, k1, k2⟩
  · exact .inl k
  · exact .inr ⟨b, o, k1, h b k2⟩
theorem IDH.fresh {Kp : Nat → Prop} {W : World} {d : Gp.Dr} {CS : Array Value} (h : IDH Kp W d CS) : IDH (fun x => Kp x ∧ x ≠ W.heap.size) W d CS := by
  obtain ⟨p, e, h⟩ := h
  exact ⟨p, e, h.at_, h.wcap, h.acap, h.ql, h.wl, ikrow_fresh h.at_.win h.kw, ikrow_fresh h.at_.ahead h.ka, ikrow_fresh h.at_.queue h.kq, ikrow_fresh h.at_.took h.kt⟩
theorem IDH.weak {Kp Kq : Nat → Prop} {W : World} {d : Gp.Dr} {CS : Array Value} (h : IDH Kp W d CS) (hk : ∀ x, Kp x → Kq x) : IDH Kq W d CS := by
  obtain ⟨p, e, h⟩ := h
  exact ⟨p, e, h.at_, h.wcap, h.acap, h.ql, h.wl, ikrow_weak h.kw hk, ikrow_weak h.ka hk, ikrow_weak h.kq hk, ikrow_weak h.kt hk⟩
theorem IS5.mk2 {Kp : Nat → Prop} {B : Nat} {w w2 w4 w5 : World} {a b : Gp.Dr} {CA CB C5 : Array Value} {R : List Value} {ob : Obj} {r : Gp.Dr × List UInt8 × List Gp.Pc} {a5 : Option Addr} {c5 : Nat} (hP : IPB Kp B w2 a b CA CB R) (b2 : Below w.heap.size w w2) (b4 : Below (w2.alloc ob).heap.size (w2.alloc ob) w4) (o5 : Rg.Only w2.heap.size w4 w5) (k : Rg.Bk w2.heap.size C5.toList 29 w5) (hd : IDH (fun x => Kp x ∧ x ≠ w2.heap.size) w4 r.1 C5) (hl : r.2.2 = []) :
    IS5 Kp B w a b CA CB R r (.pointer (some ⟨w2.heap.size, 0, none⟩)) (.string ⟨r.2.1.toArray⟩) (.slice a5 (Ip.join r.2.2).length c5) w5 := by
  have b24 := Rg.chain (Rg.al1 w2 ob) b4
  have hn : ¬ (fun x => Kp x ∧ x ≠ w2.heap.size) w2.heap.size := fun h => h.2 rfl
  have hB : B ≠ w2.heap.size := by have := hP.bk.lt; omega
  have hw : ∀ x, (fun x => Kp x ∧ x ≠ w2.heap.size) x → Kp x := fun x h => h.1
  refine ⟨_, C5, a5, c5, rfl, rfl, by rw [hl]; rfl, (fun e => hB e.symm), k, (hd.only hn o5).weak hw, ⟨(hP.bk.below b24 hP.bk.lt).same (o5.block B hB), ((hP.ha.fresh.below b24).only hn o5).weak hw, ((hP.hb.fresh.below b24).only hn o5).weak hw, hP.no⟩, ?_⟩
  have h1 : Below w.heap.size w w5 := (Rg.chain b2 b24).trans (o5.bel b2.size)
  exact Oth.of h1
/-- what a step leaves -/
def IStPost (Kp : Nat → Prop) (B : Nat) (w : World) (a b : Gp.Dr) (R : List Value) (e : Ending) (w' : World) : Prop := ∃ CA CB, e = .returned (.tuple #[]) ∧ Hid (IPB Kp B w' a b CA CB R) ∧ Hid (Oth B w w')
set_option maxHeartbeats 4000000 in
set_option maxRecDepth 100000 in
theorem itook_goA (B : Nat) (l : List (Int × Int)) (n tc : Nat) (ta : Option Addr) (w : World) (hn : Hid (n = l.length)) (c17 : w.cell? ⟨B, 17, none⟩ = some (.slice ta n tc)) (c44 : w.cell? ⟨B, 48, none⟩ = some (.slice none 0 0)) (hr : Hid (ERow spE w ta l)) (hB : Hid (B < w.heap.size)) (hn1 : Hid (n ≤ 1000000)) :
    Calls Tryz.prog 53 #[.pointer (some ⟨B, 0, none⟩), .int .i64 0] w fun e w' => e = .returned (.tuple #[]) ∧ Below w.heap.size w w' := by
  go_enter Tryz.func53, Tryz.ntmps53
  go_wp2
  go_loopw [16] (fun vi wr => ∃ i : Nat, i ≤ n ∧ vi = .int .i64 i ∧ Hid (Below w.heap.size w wr)) (fun vi _ => n - (intOf vi).toNat)
  case atStart => exact ⟨0, Nat.zero_le _, rfl, Below.refl _ _⟩
  case round =>
    obtain ⟨i, hin, rfl, hbw⟩ := hrel
    by_cases hlt : i < n
    · have hil : i < l.length := by rw [← hn.out]; exact hlt
      obtain ⟨b1, o1, rfl, _, _, y1⟩ := (hr.out.below hbw.out).cell hil
      replace y1 := sp_at y1
      generalize l[i] = x at y1
      obtain ⟨x1, x2⟩ := x
      obtain ⟨c0, c1⟩ := y1
      have em : spE.m = 2 := rfl
      rw [em] at c0 c1
      dsimp only at c0 c1
      have iz0 : (0 : Int) ≤ (i : Int) := by omega
      have iz1 : (i : Int) < (n : Int) := by omega
      have hi2 : Hid (wrap64 ((i : Int) + 1) = ((i + 1 : Nat) : Int)) := by show _ = _; have := hn1.out; unfold wrap64; omega
      have b2 := Rg.hid (Rg.al1 wr (.cells #[.int .i64 x1, .int .i64 x2] 75))
      have d44 : wr.cell? ⟨B, 48, none⟩ = some (.slice none 0 0) := by rw [← c44]; exact World.cell?_of_block (a := ⟨B, 48, none⟩) (hbw.out.block B hB.out)
      have e44 : (wr.alloc (.cells #[.int .i64 x1, .int .i64 x2] 75)).cell? ⟨B, 48, none⟩ = some (.slice none 0 0) := by rw [← d44]; exact World.cell?_of_block (a := ⟨B, 48, none⟩) (b2.out.block B (Nat.lt_of_lt_of_le hB.out hbw.out.size))
      clear em hil d44
      go_wp2
      go_loopw [27] (fun vj wx => vj = .int .i64 0 ∧ Hid (Below w.heap.size w wx)) (fun _ _ => 0)
      case atStart => exact ⟨rfl, Rg.chain hbw.out b2.out⟩
      case round =>
        obtain ⟨rfl, hbx⟩ := hrel
        go_wp2
        go_roundw
        case rel => exact ⟨i + 1, by omega, by rw [hi2.out], hbx⟩
        case measure => rw [hi2.out]; simp [intOf]; clear hi2; omega
    · have hie : i = n := by omega
      subst hie
      go_wp2
      go_end0
      exact ⟨rfl, hbw.out⟩
set_option maxHeartbeats 4000000 in
set_option maxRecDepth 100000 in
theorem itook_goB (B : Nat) (l : List (Int × Int)) (n tc : Nat) (ta : Option Addr) (w : World) (hn : Hid (n = l.length)) (c17 : w.cell? ⟨B, 35, none⟩ = some (.slice ta n tc)) (c44 : w.cell? ⟨B, 49, none⟩ = some (.slice none 0 0)) (hr : Hid (ERow spE w ta l)) (hB : Hid (B < w.heap.size)) (hn1 : Hid (n ≤ 1000000)) :
    Calls Tryz.prog 53 #[.pointer (some ⟨B, 0, none⟩), .int .i64 1] w fun e w' => e = .returned (.tuple #[]) ∧ Below w.heap.size w w' := by
  go_enter Tryz.func53, Tryz.ntmps53
  go_wp2
  go_loopw [16] (fun vi wr => ∃ i : Nat, i ≤ n ∧ vi = .int .i64 i ∧ Hid (Below w.heap.size w wr)) (fun vi _ => n - (intOf vi).toNat)
  case atStart => exact ⟨0, Nat.zero_le _, rfl, Below.refl _ _⟩
  case round =>
    obtain ⟨i, hin, rfl, hbw⟩ := hrel
    by_cases hlt : i < n
    · have hil : i < l.length := by rw [← hn.out]; exact hlt
      obtain ⟨b1, o1, rfl, _, _, y1⟩ := (hr.out.below hbw.out).cell hil
      replace y1 := sp_at y1
      generalize l[i] = x at y1
      obtain ⟨x1, x2⟩ := x
      obtain ⟨c0, c1⟩ := y1
      have em : spE.m = 2 := rfl
      rw [em] at c0 c1
      dsimp only at c0 c1
      have iz0 : (0 : Int) ≤ (i : Int) := by omega
      have iz1 : (i : Int) < (n : Int) := by omega
      have hi2 : Hid (wrap64 ((i : Int) + 1) = ((i + 1 : Nat) : Int)) := by show _ = _; have := hn1.out; unfold wrap64; omega
      have b2 := Rg.hid (Rg.al1 wr (.cells #[.int .i64 x1, .int .i64 x2] 75))
      have d44 : wr.cell? ⟨B, 49, none⟩ = some (.slice none 0 0) := by rw [← c44]; exact World.cell?_of_block (a := ⟨B, 49, none⟩) (hbw.out.block B hB.out)
      have e44 : (wr.alloc (.cells #[.int .i64 x1, .int .i64 x2] 75)).cell? ⟨B, 49, none⟩ = some (.slice none 0 0) := by rw [← d44]; exact World.cell?_of_block (a := ⟨B, 49, none⟩) (b2.out.block B (Nat.lt_of_lt_of_le hB.out hbw.out.size))
      clear em hil d44
      go_wp2
      go_loopw [27] (fun vj wx => vj = .int .i64 0 ∧ Hid (Below w.heap.size w wx)) (fun _ _ => 0)
      case atStart => exact ⟨rfl, Rg.chain hbw.out b2.out⟩
      case round =>
        obtain ⟨rfl, hbx⟩ := hrel
        go_wp2
        go_roundw
        case rel => exact ⟨i + 1, by omega, by rw [hi2.out], hbx⟩
        case measure => rw [hi2.out]; simp [intOf]; clear hi2; omega
    · have hie : i = n := by omega
      subst hie
      go_wp2
      go_end0
      exact ⟨rfl, hbw.out⟩
theorem itook_anyA {Kp : Nat → Prop} {B : Nat} {W : World} {a b : Gp.Dr} {CA CB : Array Value} {x0 x1 : List UInt8} {t0 t1 : Int} (h : IPB Kp B W a b CA CB (ipR x0 x1 t0 t1)) (hk : a.took.length ≤ 1000000) : Calls Tryz.prog 53 #[.pointer (some ⟨B, 0, none⟩), .int .i64 0] W fun e w' => e = .returned (.tuple #[]) ∧ Below W.heap.size W w' := by
  obtain ⟨ta, tc, h1, h2⟩ := idh_took h.ha
  refine itook_goA B a.took _ tc ta W rfl ?_ (h.cell 12) h2 h.bk.lt hk
  rw [h.bk.cell]
  unfold IPC2
  rw [List.getElem?_append_left (by rw [Array.length_toList, h.ha.size]; omega)]
  exact h1
theorem itook_anyB {Kp : Nat → Prop} {B : Nat} {W : World} {a b : Gp.Dr} {CA CB : Array Value} {x0 x1 : List UInt8} {t0 t1 : Int} (h : IPB Kp B W a b CA CB (ipR x0 x1 t0 t1)) (hk : b.took.length ≤ 1000000) : Calls Tryz.prog 53 #[.pointer (some ⟨B, 0, none⟩), .int .i64 1] W fun e w' => e = .returned (.tuple #[]) ∧ Below W.heap.size W w' := by
  obtain ⟨ta, tc, h1, h2⟩ := idh_took h.hb
  refine itook_goB B b.took _ tc ta W rfl ?_ (h.cell 13) h2 h.bk.lt hk
  rw [h.bk.cell]
  unfold IPC2
  rw [List.getElem?_append_right (by rw [Array.length_toList, h.ha.size]; omega), List.getElem?_append_left (by rw [Array.length_toList, Array.length_toList, h.ha.size, h.hb.size]; omega), Array.length_toList, h.ha.size]
  exact h1
end Go.Proofs.YtlclfkogbfigbaaGreat
