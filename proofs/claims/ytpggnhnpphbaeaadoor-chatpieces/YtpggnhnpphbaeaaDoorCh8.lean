/-
  Layer 8: Parse.
-/
import Derived.Test.YtpggnhnpphbaeaaDoorCh6
import Derived.Test.YtpggnhnpphbaeaaDoorCh7
import Derived.Test.YtpggnhnpphbaeaaDoorMathX
import Derived.Shelf.GgClosure.StringsRunes
import Derived.Shelf.Unicode.PredsPay
namespace Go.Proofs.YtpggnhnpphbaeaaDoor
open Go.RowKit

set_option maxHeartbeats 400000 in
theorem strange_any (r : Nat) (hr : r ≤ 1114111) (W : World) : Calls Tryd.prog 16 #[.int .i32 (r : Int)] W fun e w' => e = .returned (.bool (Ch.odd r)) ∧ w' = W := by
  unfold Ch.odd
  by_cases h0 : (r : Int) < 32
  · have d0 : decide ((r : Int) < 32) = true := by simp only [decide_eq_true_eq]; exact h0
    have hr2 : Hid ((decide (r < 32) || decide (126 < r)) = true) := by show _ = _; rw [decide_eq_true (show r < 32 by omega), Bool.true_or]
    rw [hr2.out]
    clear h0
    go_enter Tryd.func16, Tryd.ntmps16
    go_wp2
    go_ret
    exact ⟨rfl, rfl⟩
  · have d0 : decide ((r : Int) < 32) = false := by simp only [decide_eq_false_iff_not]; exact h0
    have hr2 : Hid ((decide (r < 32) || decide (126 < r)) = decide ((126 : Int) < (r : Int))) := by show _ = _; rw [decide_eq_false (show ¬ r < 32 by omega), Bool.false_or, decide_eq_decide]; omega
    rw [hr2.out]
    clear h0
    go_enter Tryd.func16, Tryd.ntmps16
    go_wp2
    go_ret
    exact ⟨rfl, rfl⟩
theorem egS : ∀ args w, (callFunc 16 args).run Tryd.prog w = .ok (.enter 16 args) w := enters_of Tryd.func16 (by kernel_rfl) rfl
theorem contains_any (s : ByteArray) (w : World) : Calls Tryd.prog 15 #[.string s, .func (.func 16) #[] #[]] w fun e w' => e = .returned (.bool (s.data.toList.any (fun b => Ch.odd b.toNat))) ∧ Below w.heap.size w w' := by
  have := Tryd.strings_ContainsFunc_runes 16 #[] egS Ch.odd s w (fun W x hx _ => (strange_any x hx W).mono fun e w' ⟨h1, h2⟩ => ⟨h1, 0, by rw [h2]; rfl⟩)
  rw [Ch.odd_idx] at this
  exact this
/-- what is asked of a world: the table of blanks, the variable MaxLen -/
structure Env (w : World) : Prop where
  max : MaxIn w
  tab : Lib.TabIs Tryd.prog w "strings.asciiSpace" .u8 Lib.asciiSpaceTab
theorem Env.below {w w' : World} (h : Env w) (hb : Below w.heap.size w w') : Env w' := ⟨h.max.below hb, TabIs_below (g := 0) (by kernel_rfl) h.tab hb⟩
/-- behind Parse -/
def PPost (w : World) (r : List Ch.St × Int) (e : Ending) (w' : World) : Prop := ∃ a c vs, e = .returned (.tuple #[.slice a r.1.length c, .int .i64 r.2]) ∧ Rg.Tow stepE w' a vs ∧ StsAt w' vs r.1 ∧ r.1.length ≤ c ∧ Below w.heap.size w w'

/-- two stores: what Parse hands back -/
theorem retPQ (w W : World) (P Q : Nat) (v0 : Value) (e0 : Int) (v : Value) (e : Int) (kP : Rg.Bk P [v0] 22 W) (kQ : Rg.Bk Q [.int .i64 e0] 38 W) (hPQ : P ≠ Q) (hPw : w.heap.size ≤ P) (hQw : w.heap.size ≤ Q) (hb : Below w.heap.size w W) :
    Rg.Bk P [v] 22 ((W.setCell ⟨P, 0, none⟩ v).setCell ⟨Q, 0, none⟩ (.int .i64 e)) ∧ Rg.Bk Q [.int .i64 e] 38 ((W.setCell ⟨P, 0, none⟩ v).setCell ⟨Q, 0, none⟩ (.int .i64 e)) ∧ Below w.heap.size w ((W.setCell ⟨P, 0, none⟩ v).setCell ⟨Q, 0, none⟩ (.int .i64 e)) := by
  have o1 := Rg.Only.setCell W P 0 v
  have o2 := Rg.Only.setCell (W.setCell ⟨P, 0, none⟩ v) Q 0 (.int .i64 e)
  exact ⟨(show Rg.Bk P [v] _ _ from kP.set 0 v).same (o2.block P hPQ), (kQ.same (o1.block Q (Ne.symm hPQ))).set 0 _, (hb.trans (o1.bel hPw)).trans (o2.bel hQw)⟩
set_option maxHeartbeats 2000000 in
set_option maxRecDepth 100000 in
theorem parse_long (s : ByteArray) (w : World) (hs : 300 < s.size) : Calls Tryd.prog 10 #[.string s] w fun e w' => PPost w ([], 5) e w' := by
  have d0 : decide ((300 : Int) < (s.size : Int)) = true := by simp only [decide_eq_true_eq]; omega
  have hmf : ∀ (fn : Fn) (first cap : Array Value) (w : World), (Instr.makeFunc fn first cap).run Tryd.prog w = .ok (.func fn first cap) w := fun _ _ _ _ => rfl
  have kP1 : Hid (Rg.Bk w.heap.size [.slice none 0 0] 22 ((w.alloc (.cells #[.slice none 0 0] 22)).alloc (.cells #[.int .i64 0] 38))) := (Rg.Bk.new rfl).old _
  have kQ1 : Hid (Rg.Bk (w.heap.size + 1) [.int .i64 0] 38 ((w.alloc (.cells #[.slice none 0 0] 22)).alloc (.cells #[.int .i64 0] 38))) := Rg.Bk.new (by simp)
  have hb1 := Rg.hid (Rg.al2 w (.cells #[.slice none 0 0] 22) (.cells #[.int .i64 0] 38))
  go_enter_defers Tryd.func10, Tryd.ntmps10
  go_upto_region 1 with fail
  generalize World.alloc _ _ = w1 at *
  obtain ⟨P, hP⟩ : ∃ P, P = w.heap.size := ⟨_, rfl⟩
  obtain ⟨Q, hQ⟩ : ∃ Q, Q = w.heap.size + 1 := ⟨_, rfl⟩
  rw [← hQ] at kQ1 ⊢
  rw [← hP] at kP1 ⊢
  have hPQ : P ≠ Q := by omega
  have hPw : w.heap.size ≤ P := by omega
  have hQw : w.heap.size ≤ Q := by omega
  clear hP hQ
  go_upto_region 2 with fail
  have kP := kP1.out
  have kQ := kQ1.out
  have z0 : w1.cell? ⟨P, 0, none⟩ = some (.slice none 0 0) := kP.cell 0
  have z1 : w1.cell? ⟨Q, 0, none⟩ = some (.int .i64 0) := kQ.cell 0
  have f0 := kP.thaw
  have f1 := kQ.thaw
  have hfin := retPQ w w1 P Q (.slice none 0 0) 0 (.slice none 0 0) 5 kP kQ hPQ hPw hQw hb1.out
  replace hfin := Rg.hid hfin
  clear kP kQ
  go_wp2
  replace hfin := hfin.out
  generalize World.setCell _ _ _ = WE at *
  obtain ⟨hE, hF, hB⟩ := hfin
  refine ⟨.tuple #[.slice none 0 0, .int .i64 5], by simp [results, Tryd.results10, go_sem, hE.cell, hF.cell], none, 0, [], rfl, Rg.Tow.nil, trivial, Nat.le_refl _, hB⟩

set_option maxHeartbeats 2000000 in
set_option maxRecDepth 100000 in
theorem parse_odd (s : ByteArray) (w : World) (hs : s.size ≤ 300) (ho : s.data.toList.any (fun b => Ch.odd b.toNat) = true) : Calls Tryd.prog 10 #[.string s] w fun e w' => PPost w ([], 3) e w' := by
  have d0 : decide ((300 : Int) < (s.size : Int)) = false := by simp only [decide_eq_false_iff_not]; omega
  have HC : Hid (∀ W, Calls Tryd.prog 15 #[.string s, .func (.func 16) #[] #[]] W fun e w' => e = .returned (.bool true) ∧ Below W.heap.size W w') := fun W => by rw [← ho]; exact contains_any s W
  clear ho
  have hmf : ∀ (fn : Fn) (first cap : Array Value) (w : World), (Instr.makeFunc fn first cap).run Tryd.prog w = .ok (.func fn first cap) w := fun _ _ _ _ => rfl
  have kP1 : Hid (Rg.Bk w.heap.size [.slice none 0 0] 22 ((w.alloc (.cells #[.slice none 0 0] 22)).alloc (.cells #[.int .i64 0] 38))) := (Rg.Bk.new rfl).old _
  have kQ1 : Hid (Rg.Bk (w.heap.size + 1) [.int .i64 0] 38 ((w.alloc (.cells #[.slice none 0 0] 22)).alloc (.cells #[.int .i64 0] 38))) := Rg.Bk.new (by simp)
  have hb1 := Rg.hid (Rg.al2 w (.cells #[.slice none 0 0] 22) (.cells #[.int .i64 0] 38))
  go_enter_defers Tryd.func10, Tryd.ntmps10
  go_upto_region 1 with fail
  generalize World.alloc _ _ = w1 at *
  obtain ⟨P, hP⟩ : ∃ P, P = w.heap.size := ⟨_, rfl⟩
  obtain ⟨Q, hQ⟩ : ∃ Q, Q = w.heap.size + 1 := ⟨_, rfl⟩
  rw [← hQ] at kQ1 ⊢
  rw [← hP] at kP1 ⊢
  have hPQ : P ≠ Q := by omega
  have hPw : w.heap.size ≤ P := by omega
  have hQw : w.heap.size ≤ Q := by omega
  clear hP hQ
  go_upto_region 4 with (go_at_call 15; refine (HC.out _).mono ?_; rintro e w2 ⟨rfl, b2⟩)
  have kP := kP1.out.below b2 kP1.out.lt
  have kQ := kQ1.out.below b2 kQ1.out.lt
  have z0 : w2.cell? ⟨P, 0, none⟩ = some (.slice none 0 0) := kP.cell 0
  have z1 : w2.cell? ⟨Q, 0, none⟩ = some (.int .i64 0) := kQ.cell 0
  have f0 := kP.thaw
  have f1 := kQ.thaw
  have hfin := retPQ w w2 P Q (.slice none 0 0) 0 (.slice none 0 0) 3 kP kQ hPQ hPw hQw (Rg.chain hb1.out b2)
  replace hfin := Rg.hid hfin
  clear kP kQ
  go_wp2
  replace hfin := hfin.out
  generalize World.setCell _ _ _ = WE at *
  obtain ⟨hE, hF, hB⟩ := hfin
  refine ⟨.tuple #[.slice none 0 0, .int .i64 3], by simp [results, Tryd.results10, go_sem, hE.cell, hF.cell], none, 0, [], rfl, Rg.Tow.nil, trivial, Nat.le_refl _, hB⟩

end Go.Proofs.YtpggnhnpphbaeaaDoor
