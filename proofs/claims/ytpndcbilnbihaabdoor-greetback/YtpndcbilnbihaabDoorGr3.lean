/-
  Layer 9: the door: judge, endLine, and the document's enter.
-/
import Derived.Test.YtpndcbilnbihaabDoorGr2
import Derived.Test.YtpndcbilnbihaabDoorRowH
namespace Go.Proofs.YtpndcbilnbihaabDoor
open Go.RowKit

/-- a door as a value -/
def dv (d : Gr.D) : Value := .agg #[.int .i64 d.stage, .string d.typed, .string d.name, .int .i64 d.wrong]

set_option maxHeartbeats 1000000 in
set_option maxRecDepth 100000 in
theorem judge_right (st wr : Int) (ty nm : ByteArray) (w : World) :
    Calls Tryd.prog 38 #[.agg #[.int .i64 st, .string ty, .string nm, .int .i64 wr], .bool true] w fun e w' => e = .returned (.tuple #[.agg #[.int .i64 2, .string ty, .string nm, .int .i64 wr], .string ⟨#[]⟩]) ∧ Below w.heap.size w w' := by
  go_enter Tryd.func38, Tryd.ntmps38
  go_wp2
  exact bodyPost_ret (v := .tuple #[.agg #[.int .i64 2, .string ty, .string nm, .int .i64 wr], .string ⟨#[]⟩]) (by simp [results, Tryd.results38, go_sem]) rfl ⟨rfl, Rg.al2 _ _ _⟩
set_option maxHeartbeats 1000000 in
set_option maxRecDepth 100000 in
theorem judge_shut (st wr : Int) (ty nm : ByteArray) (w : World) (h0 : 0 ≤ wr) (h1 : wr ≤ 1000) (h2 : 2 < wr + 1) :
    Calls Tryd.prog 38 #[.agg #[.int .i64 st, .string ty, .string nm, .int .i64 wr], .bool false] w fun e w' => e = .returned (.tuple #[.agg #[.int .i64 3, .string ty, .string ⟨#[]⟩, .int .i64 (wr + 1)], .string Gr.incorrect]) ∧ Below w.heap.size w w' := by
  have e1 : wrap64 (wr + 1) = wr + 1 := by unfold wrap64; omega
  have e2 : IntKind.i64.wrap (wr + 1) = wr + 1 := by rw [IntKind.wrap_i64]; omega
  have d0 : decide (2 < wr + 1) = true := by simp only [decide_eq_true_eq]; exact h2
  go_enter Tryd.func38, Tryd.ntmps38
  go_wp2
  exact bodyPost_ret (v := .tuple #[.agg #[.int .i64 3, .string ty, .string ⟨#[]⟩, .int .i64 (wr + 1)], .string Gr.incorrect]) (by simp [results, Tryd.results38, go_sem, Gr.incorrect]) rfl ⟨rfl, Rg.al2 _ _ _⟩
set_option maxHeartbeats 1000000 in
set_option maxRecDepth 100000 in
theorem judge_again (st wr : Int) (ty nm : ByteArray) (w : World) (h0 : 0 ≤ wr) (h1 : wr ≤ 1000) (h2 : ¬ 2 < wr + 1) :
    Calls Tryd.prog 38 #[.agg #[.int .i64 st, .string ty, .string nm, .int .i64 wr], .bool false] w fun e w' => e = .returned (.tuple #[.agg #[.int .i64 0, .string ty, .string ⟨#[]⟩, .int .i64 (wr + 1)], .string (Gr.incorrect ++ Gr.askName)]) ∧ Below w.heap.size w w' := by
  have e1 : wrap64 (wr + 1) = wr + 1 := by unfold wrap64; omega
  have e2 : IntKind.i64.wrap (wr + 1) = wr + 1 := by rw [IntKind.wrap_i64]; omega
  have d0 : decide (2 < wr + 1) = false := by simp only [decide_eq_false_iff_not]; exact h2
  have hc : (Gr.incorrect ++ Gr.askName) = ⟨#[76, 111, 103, 105, 110, 32, 105, 110, 99, 111, 114, 114, 101, 99, 116, 13, 10, 108, 111, 103, 105, 110, 58, 32]⟩ := by rfl
  rw [hc]
  clear hc
  go_enter Tryd.func38, Tryd.ntmps38
  go_wp2
  exact bodyPost_ret (v := .tuple #[.agg #[.int .i64 0, .string ty, .string ⟨#[]⟩, .int .i64 (wr + 1)], .string ⟨#[76, 111, 103, 105, 110, 32, 105, 110, 99, 111, 114, 114, 101, 99, 116, 13, 10, 108, 111, 103, 105, 110, 58, 32]⟩]) (by simp [results, Tryd.results38, go_sem]) rfl ⟨rfl, Rg.al2 _ _ _⟩

theorem ret4 {b : Nat} {C : List Value} {ty : TypeId} {W : World} (h : Rg.Bk b C ty W) (hC : C.length = 4) (a0 a1 a2 a3 : Value) :
    Rg.Bk b [a0, a1, a2, a3] ty ((((W.setCell ⟨b, 0, none⟩ a0).setCell ⟨b, 1, none⟩ a1).setCell ⟨b, 2, none⟩ a2).setCell ⟨b, 3, none⟩ a3) ∧ Rg.Only b W ((((W.setCell ⟨b, 0, none⟩ a0).setCell ⟨b, 1, none⟩ a1).setCell ⟨b, 2, none⟩ a2).setCell ⟨b, 3, none⟩ a3) := by
  refine ⟨?_, (((Rg.Only.setCell W b 0 a0).trans (Rg.Only.setCell _ b 1 a1)).trans (Rg.Only.setCell _ b 2 a2)).trans (Rg.Only.setCell _ b 3 a3)⟩
  have := (((h.set 0 a0).set 1 a1).set 2 a2).set 3 a3
  match C, hC with
  | [_, _, _, _], _ => simpa using this
def dcells (st : Int) (ty nm : ByteArray) (wr : Int) : Array Value := #[.int .i64 st, .string ty, .string nm, .int .i64 wr]
theorem same_true {a b : ByteArray} (h : a = b) : (a.toList == b.toList) = true := by rw [h]; simp
theorem same_false {a b : ByteArray} (h : ¬ a = b) : (a.toList == b.toList) = false := by
  rw [beq_eq_false_iff_ne]; intro e; apply h; rw [ByteArray.toList_eq, ByteArray.toList_eq] at e; exact ByteArray.ext (Array.toList_inj.1 e)
theorem empty_true {a : ByteArray} (h : a = ⟨#[]⟩) : a.toList.isEmpty = true := by rw [h, ByteArray.toList_eq]; rfl
theorem empty_false {a : ByteArray} (h : ¬ a = ⟨#[]⟩) : a.toList.isEmpty = false := by
  cases e : a.toList.isEmpty with
  | false => rfl
  | true => rw [List.isEmpty_iff, ByteArray.toList_eq] at e; exact absurd (ByteArray.ext (by simpa using e)) h
theorem nil_false {a : ByteArray} (h : ¬ a = ⟨#[]⟩) : (a.toList == []) = false := by
  rw [beq_eq_false_iff_ne]; intro e; rw [ByteArray.toList_eq] at e; exact absurd (ByteArray.ext (by simpa using e)) h

set_option maxHeartbeats 2000000 in
set_option maxRecDepth 100000 in
theorem endLine_any (d : Gr.D) (login pw : ByteArray) (w : World) (hg : Gr.Good d) (hs : d.stage = 0 ∨ d.stage = 1) :
    Calls Tryd.prog 26 #[dv d, .string login, .string pw] w fun e w' => e = .returned (.tuple #[dv (Gr.line login pw d).1, .string (Gr.line login pw d).2]) ∧ Below w.heap.size w w' := by
  obtain ⟨st, ty, nm, wr⟩ := d
  have hw0 := hg.wrong0
  have hw3 := hg.wrong3
  simp only at hs hw0 hw3
  clear hg
  unfold Gr.line
  simp only
  by_cases h1 : st = 1
  · subst h1
    rw [if_pos rfl]
    have hJr : Hid (∀ W : World, Calls Tryd.prog 38 #[.agg #[.int .i64 1, .string ⟨#[]⟩, .string nm, .int .i64 wr], .bool true] W fun e w' => e = .returned (.tuple #[.agg #[.int .i64 2, .string ⟨#[]⟩, .string nm, .int .i64 wr], .string ⟨#[]⟩]) ∧ Below W.heap.size W w') := fun W => judge_right 1 wr ⟨#[]⟩ nm W
    have hJs : Hid (2 < wr + 1 → ∀ W : World, Calls Tryd.prog 38 #[.agg #[.int .i64 1, .string ⟨#[]⟩, .string nm, .int .i64 wr], .bool false] W fun e w' => e = .returned (.tuple #[.agg #[.int .i64 3, .string ⟨#[]⟩, .string ⟨#[]⟩, .int .i64 (wr + 1)], .string Gr.incorrect]) ∧ Below W.heap.size W w') := fun h W => judge_shut 1 wr ⟨#[]⟩ nm W hw0 (by omega) h
    have hJa : Hid (¬ 2 < wr + 1 → ∀ W : World, Calls Tryd.prog 38 #[.agg #[.int .i64 1, .string ⟨#[]⟩, .string nm, .int .i64 wr], .bool false] W fun e w' => e = .returned (.tuple #[.agg #[.int .i64 0, .string ⟨#[]⟩, .string ⟨#[]⟩, .int .i64 (wr + 1)], .string (Gr.incorrect ++ Gr.askName)]) ∧ Below W.heap.size W w') := fun h W => judge_again 1 wr ⟨#[]⟩ nm W hw0 (by omega) h
    by_cases hn : nm = login
    · have c0 := same_true hn
      by_cases hp : ty = pw
      · have c1 := same_true hp
        rw [if_pos ⟨hn, hp⟩]
        have HJ := hJr
        clear hn hp
        clear hJr hJs hJa
        unfold dv
        simp only
        have kR : Hid (Rg.Bk (w.heap.size + 1) [.int .i64 0, .string ⟨#[]⟩, .string ⟨#[]⟩, .int .i64 0] 38 ((w.alloc (.cells #[.int .i64 1, .string ⟨#[]⟩, .string nm, .int .i64 wr] 38)).alloc (.cells #[.int .i64 0, .string ⟨#[]⟩, .string ⟨#[]⟩, .int .i64 0] 38))) := Rg.Bk.new (by simp)
        have hb1 := Rg.hid (Rg.al2 w (.cells #[.int .i64 1, .string ⟨#[]⟩, .string nm, .int .i64 wr] 38) (.cells #[.int .i64 0, .string ⟨#[]⟩, .string ⟨#[]⟩, .int .i64 0] 38))
        go_enter Tryd.func26, Tryd.ntmps26
        go_wp2_with (go_at_call 38; refine (HJ.out _).mono ?_; rintro e w2 ⟨rfl, b2⟩; have kR2 := kR.out.below b2 kR.out.lt; have hb2 := Rg.hid (hb1.out.trans (b2.mono hb1.out.size)); have rf := kR2.thaw; have r0 := kR2.cell 0; have r1 := kR2.cell 1; have r2 := kR2.cell 2; have r3 := kR2.cell 3)
        obtain ⟨kE, oE⟩ := ret4 kR2 rfl (.int .i64 2) (.string ⟨#[]⟩) (.string nm) (.int .i64 wr)
        have hb5 := hb2.out.trans (oE.bel (by omega))
        generalize World.setCell _ _ _ = WE at *
        exact bodyPost_ret (v := .tuple #[.agg #[.int .i64 2, .string ⟨#[]⟩, .string nm, .int .i64 wr], .string ⟨#[]⟩]) (by simp [results, Tryd.results26, go_sem, kE.cell]) rfl ⟨rfl, hb5⟩
      · have c1 := same_false hp
        rw [if_neg (fun h => hp h.2)]
        clear hn hp
        by_cases h2 : 2 < wr + 1
        · rw [if_pos h2]
          have HJ := Rg.hid (hJs.out h2)
          clear hJr hJs hJa
          unfold dv
          simp only
          have kR : Hid (Rg.Bk (w.heap.size + 1) [.int .i64 0, .string ⟨#[]⟩, .string ⟨#[]⟩, .int .i64 0] 38 ((w.alloc (.cells #[.int .i64 1, .string ⟨#[]⟩, .string nm, .int .i64 wr] 38)).alloc (.cells #[.int .i64 0, .string ⟨#[]⟩, .string ⟨#[]⟩, .int .i64 0] 38))) := Rg.Bk.new (by simp)
          have hb1 := Rg.hid (Rg.al2 w (.cells #[.int .i64 1, .string ⟨#[]⟩, .string nm, .int .i64 wr] 38) (.cells #[.int .i64 0, .string ⟨#[]⟩, .string ⟨#[]⟩, .int .i64 0] 38))
          go_enter Tryd.func26, Tryd.ntmps26
          go_wp2_with (go_at_call 38; refine (HJ.out _).mono ?_; rintro e w2 ⟨rfl, b2⟩; have kR2 := kR.out.below b2 kR.out.lt; have hb2 := Rg.hid (hb1.out.trans (b2.mono hb1.out.size)); have rf := kR2.thaw; have r0 := kR2.cell 0; have r1 := kR2.cell 1; have r2 := kR2.cell 2; have r3 := kR2.cell 3)
          obtain ⟨kE, oE⟩ := ret4 kR2 rfl (.int .i64 3) (.string ⟨#[]⟩) (.string ⟨#[]⟩) (.int .i64 (wr + 1))
          have hb5 := hb2.out.trans (oE.bel (by omega))
          generalize World.setCell _ _ _ = WE at *
          exact bodyPost_ret (v := .tuple #[.agg #[.int .i64 3, .string ⟨#[]⟩, .string ⟨#[]⟩, .int .i64 (wr + 1)], .string Gr.incorrect]) (by simp [results, Tryd.results26, go_sem, kE.cell]) rfl ⟨rfl, hb5⟩
        · rw [if_neg h2]
          have HJ := Rg.hid (hJa.out h2)
          clear hJr hJs hJa
          unfold dv
          simp only
          have kR : Hid (Rg.Bk (w.heap.size + 1) [.int .i64 0, .string ⟨#[]⟩, .string ⟨#[]⟩, .int .i64 0] 38 ((w.alloc (.cells #[.int .i64 1, .string ⟨#[]⟩, .string nm, .int .i64 wr] 38)).alloc (.cells #[.int .i64 0, .string ⟨#[]⟩, .string ⟨#[]⟩, .int .i64 0] 38))) := Rg.Bk.new (by simp)
          have hb1 := Rg.hid (Rg.al2 w (.cells #[.int .i64 1, .string ⟨#[]⟩, .string nm, .int .i64 wr] 38) (.cells #[.int .i64 0, .string ⟨#[]⟩, .string ⟨#[]⟩, .int .i64 0] 38))
          go_enter Tryd.func26, Tryd.ntmps26
          go_wp2_with (go_at_call 38; refine (HJ.out _).mono ?_; rintro e w2 ⟨rfl, b2⟩; have kR2 := kR.out.below b2 kR.out.lt; have hb2 := Rg.hid (hb1.out.trans (b2.mono hb1.out.size)); have rf := kR2.thaw; have r0 := kR2.cell 0; have r1 := kR2.cell 1; have r2 := kR2.cell 2; have r3 := kR2.cell 3)
          obtain ⟨kE, oE⟩ := ret4 kR2 rfl (.int .i64 0) (.string ⟨#[]⟩) (.string ⟨#[]⟩) (.int .i64 (wr + 1))
          have hb5 := hb2.out.trans (oE.bel (by omega))
          generalize World.setCell _ _ _ = WE at *
          exact bodyPost_ret (v := .tuple #[.agg #[.int .i64 0, .string ⟨#[]⟩, .string ⟨#[]⟩, .int .i64 (wr + 1)], .string (Gr.incorrect ++ Gr.askName)]) (by simp [results, Tryd.results26, go_sem, kE.cell]) rfl ⟨rfl, hb5⟩
    · have c0 := same_false hn
      rw [if_neg (fun h => hn h.1)]
      clear hn
      by_cases h2 : 2 < wr + 1
      · rw [if_pos h2]
        have HJ := Rg.hid (hJs.out h2)
        clear hJr hJs hJa
        unfold dv
        simp only
        have kR : Hid (Rg.Bk (w.heap.size + 1) [.int .i64 0, .string ⟨#[]⟩, .string ⟨#[]⟩, .int .i64 0] 38 ((w.alloc (.cells #[.int .i64 1, .string ⟨#[]⟩, .string nm, .int .i64 wr] 38)).alloc (.cells #[.int .i64 0, .string ⟨#[]⟩, .string ⟨#[]⟩, .int .i64 0] 38))) := Rg.Bk.new (by simp)
        have hb1 := Rg.hid (Rg.al2 w (.cells #[.int .i64 1, .string ⟨#[]⟩, .string nm, .int .i64 wr] 38) (.cells #[.int .i64 0, .string ⟨#[]⟩, .string ⟨#[]⟩, .int .i64 0] 38))
        go_enter Tryd.func26, Tryd.ntmps26
        go_wp2_with (go_at_call 38; refine (HJ.out _).mono ?_; rintro e w2 ⟨rfl, b2⟩; have kR2 := kR.out.below b2 kR.out.lt; have hb2 := Rg.hid (hb1.out.trans (b2.mono hb1.out.size)); have rf := kR2.thaw; have r0 := kR2.cell 0; have r1 := kR2.cell 1; have r2 := kR2.cell 2; have r3 := kR2.cell 3)
        obtain ⟨kE, oE⟩ := ret4 kR2 rfl (.int .i64 3) (.string ⟨#[]⟩) (.string ⟨#[]⟩) (.int .i64 (wr + 1))
        have hb5 := hb2.out.trans (oE.bel (by omega))
        generalize World.setCell _ _ _ = WE at *
        exact bodyPost_ret (v := .tuple #[.agg #[.int .i64 3, .string ⟨#[]⟩, .string ⟨#[]⟩, .int .i64 (wr + 1)], .string Gr.incorrect]) (by simp [results, Tryd.results26, go_sem, kE.cell]) rfl ⟨rfl, hb5⟩
      · rw [if_neg h2]
        have HJ := Rg.hid (hJa.out h2)
        clear hJr hJs hJa
        unfold dv
        simp only
        have kR : Hid (Rg.Bk (w.heap.size + 1) [.int .i64 0, .string ⟨#[]⟩, .string ⟨#[]⟩, .int .i64 0] 38 ((w.alloc (.cells #[.int .i64 1, .string ⟨#[]⟩, .string nm, .int .i64 wr] 38)).alloc (.cells #[.int .i64 0, .string ⟨#[]⟩, .string ⟨#[]⟩, .int .i64 0] 38))) := Rg.Bk.new (by simp)
        have hb1 := Rg.hid (Rg.al2 w (.cells #[.int .i64 1, .string ⟨#[]⟩, .string nm, .int .i64 wr] 38) (.cells #[.int .i64 0, .string ⟨#[]⟩, .string ⟨#[]⟩, .int .i64 0] 38))
        go_enter Tryd.func26, Tryd.ntmps26
        go_wp2_with (go_at_call 38; refine (HJ.out _).mono ?_; rintro e w2 ⟨rfl, b2⟩; have kR2 := kR.out.below b2 kR.out.lt; have hb2 := Rg.hid (hb1.out.trans (b2.mono hb1.out.size)); have rf := kR2.thaw; have r0 := kR2.cell 0; have r1 := kR2.cell 1; have r2 := kR2.cell 2; have r3 := kR2.cell 3)
        obtain ⟨kE, oE⟩ := ret4 kR2 rfl (.int .i64 0) (.string ⟨#[]⟩) (.string ⟨#[]⟩) (.int .i64 (wr + 1))
        have hb5 := hb2.out.trans (oE.bel (by omega))
        generalize World.setCell _ _ _ = WE at *
        exact bodyPost_ret (v := .tuple #[.agg #[.int .i64 0, .string ⟨#[]⟩, .string ⟨#[]⟩, .int .i64 (wr + 1)], .string (Gr.incorrect ++ Gr.askName)]) (by simp [results, Tryd.results26, go_sem, kE.cell]) rfl ⟨rfl, hb5⟩
  · obtain rfl : st = 0 := by omega
    rw [if_neg h1]
    clear h1
    by_cases ht : ty = ⟨#[]⟩
    · subst ht
      rw [if_pos rfl]
      unfold dv
      simp only
      go_enter Tryd.func26, Tryd.ntmps26
      go_wp2
      exact bodyPost_ret (v := .tuple #[.agg #[.int .i64 0, .string ⟨#[]⟩, .string nm, .int .i64 wr], .string Gr.askName]) (by simp [results, Tryd.results26, go_sem]; rfl) rfl ⟨rfl, Rg.al2 _ _ _⟩
    · have t0 := nil_false ht
      have t1 := empty_false ht
      rw [if_neg ht]
      unfold dv
      simp only
      clear ht
      go_enter Tryd.func26, Tryd.ntmps26
      go_wp2
      exact bodyPost_ret (v := .tuple #[.agg #[.int .i64 1, .string ⟨#[]⟩, .string ty, .int .i64 wr], .string Gr.askPw]) (by simp [results, Tryd.results26, go_sem]; rfl) rfl ⟨rfl, Rg.al2 _ _ _⟩
end Go.Proofs.YtpndcbilnbihaabDoor
