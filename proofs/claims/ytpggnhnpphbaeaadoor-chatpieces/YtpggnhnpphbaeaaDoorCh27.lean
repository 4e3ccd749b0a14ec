/-
  Layer 8: copySteps and Begin of steps that a caller hands in, whatever their address.
-/
import Derived.Test.YtpggnhnpphbaeaaDoorCh26
import Derived.Test.YtpggnhnpphbaeaaDoorCh14
namespace Go.Proofs.YtpggnhnpphbaeaaDoor
open Go.RowKit

set_option maxHeartbeats 2000000 in
set_option maxRecDepth 100000 in
theorem clone_zero (ad : Addr) (c : Nat) (w : World) :
    Calls Tryd.prog 22 #[.slice (some ad) 0 c] w fun e w' => ∃ g cap, e = .returned (.slice (some ⟨g, 0, none⟩) 0 cap) ∧ Rg.Sow stepE w.heap.size w' (some ⟨g, 0, none⟩) cap [] ∧ Below w.heap.size w w' := by
  obtain ⟨i0, hi, hz0, hz1, hz2⟩ := infoStep'
  have q : ∀ (w : World) (a : Option Addr) (n c n' c' : Nat), (binOp .eql 22 (.slice a n c) (.slice none n' c')).run Tryd.prog w = .ok (.bool a.isNone) w := fun w a n c n' c' => Lib.run_eql_slice_nil w _ _ a n c n' c' Tryd.underlying22
  go_enter Tryd.func22, Tryd.ntmps22
  go_wp2_with (at_builtin; refine wpList_append_own _ rfl _ _ 22 rfl w.heap.size 28 i0 _ 3 64 Tryd.underlying22 hi hz0 hz1 hz2 rfl (by decide) _ _ _ rfl (World.ownsRow_made w #[] 0 (Nat.le_refl _) (Nat.zero_le _) rfl) ad 0 c [] rfl rfl (by intro j u hj; simp at hj) (by intro u hu; cases hu) (by unfold maxLen; omega) (by omega) (by simp) ?_)
  intro v' w1 hown hgrow hnil
  go_wp2
  go_ret
  have hne : v' ≠ .slice none 0 0 := by first | exact hnil | (intro e; exact absurd (hnil.1 e).1 (by simp))
  have hown2 : w1.ownsRow w.heap.size 28 3 v' 0 [] := by simpa using hown
  obtain ⟨g, cap, rest, e2, h5⟩ := Rg.El.Own.of (E := stepE) (l := []) hown2 hne rfl
  exact ⟨g, cap, by rw [e2]; rfl, .inr ⟨g, rest, rfl, h5⟩, ((Below.refl _ w).alloc (Nat.le_refl _) _).grown hgrow (by simp) (by intro k hk; simp [Value.ownBlock] at hk; omega)⟩

set_option maxHeartbeats 1000000 in
set_option maxRecDepth 100000 in
theorem copy_zero (ad : Addr) (c : Nat) (w : World) : Calls Tryd.prog 12 #[.slice (some ad) 0 c] w fun e w' => SPost w [] e w' := by
  have HC : Hid (Calls Tryd.prog 22 #[.slice (some ad) 0 c] w fun e w' => ∃ g cap, e = .returned (.slice (some ⟨g, 0, none⟩) 0 cap) ∧ Hid (Rg.Sow stepE w.heap.size w' (some ⟨g, 0, none⟩) cap []) ∧ Hid (Below w.heap.size w w')) := clone_zero ad c w
  go_enter Tryd.func12, Tryd.ntmps12
  go_upto_region 2 with (go_at_call 22; refine HC.out.mono ?_; rintro e w1 ⟨g, cap, rfl, hS1, hb1⟩)
  clear HC
  go_wp2
  go_loopw [10] (fun vi wr => vi = .int .i64 0 ∧ w1 = wr) (fun _ _ => 0)
  case atStart => exact ⟨rfl, rfl⟩
  case round =>
    obtain ⟨rfl, rfl⟩ := hrel
    go_wp2
    go_ret
    exact ⟨_, cap, [], rfl, hS1.out.tow, trivial, Nat.zero_le _, hb1.out⟩
theorem copy_in (a : Option Addr) (c : Nat) (vs : List SV) (xs : List Ch.St) (w : World) (hl : xs.length ≤ 1000) (hwl : ∀ x ∈ xs, x.wants.length ≤ 1000000 ∧ x.nudge.length ≤ 1000000) (hr : Row0 stepE w a vs) (hx : ISts w vs xs) :
    Calls Tryd.prog 12 #[.slice a xs.length c] w fun e w' => SPost w xs e w' := by
  cases xs with
  | nil =>
    cases a with
    | none => exact copy_none c w
    | some ad => exact copy_zero ad c w
  | cons x xs =>
    have h0 : 0 < vs.length := by rw [hx.1]; simp
    have hrow := hr.row h0
    obtain ⟨b, o, rfl⟩ := row_place hrow h0
    exact copy_some_in b o c vs _ w hl hwl hrow hx

set_option maxHeartbeats 2000000 in
set_option maxRecDepth 100000 in
theorem begin_in (a : Option Addr) (c : Nat) (vs : List SV) (xs : List Ch.St) (p : Int) (w : World) (hm : MaxIn w) (hl : xs.length ≤ 1000) (hwl : ∀ x ∈ xs, x.wants.length ≤ 1000000 ∧ x.nudge.length ≤ 1000000) (hsd : ∀ x ∈ xs, x.send.size ≤ 100000) (hr : Row0 stepE w a vs) (hx : ISts w vs xs) :
    Calls Tryd.prog 6 #[.slice a xs.length c, .int .i64 p] w fun e w' => GPost w (Ch.begin_ xs p) e w' := by
  have HCp : Hid (∀ W, Below w.heap.size w W → Calls Tryd.prog 12 #[.slice a xs.length c] W fun e w' => ∃ a7 c7 vs7, e = .returned (.slice a7 xs.length c7) ∧ Hid (Rg.Tow stepE w' a7 vs7) ∧ Hid (StsAt w' vs7 xs) ∧ xs.length ≤ c7 ∧ Below W.heap.size W w') := fun W hW => copy_in a c vs xs W hl hwl (hr.below hW) (hx.below hW)
  obtain ⟨M1, hM1⟩ : ∃ M1 : Int, max p 1 = M1 := ⟨_, rfl⟩
  obtain ⟨M2, hM2⟩ : ∃ M2 : Int, min M1 1000 = M2 := ⟨_, rfl⟩
  have HG : Hid (∀ W a7 c7 vs7, Below w.heap.size w W → Rg.Tow stepE W a7 vs7 → StsAt W vs7 xs → xs.length ≤ c7 → Calls Tryd.prog 11 #[.agg #[.slice a7 xs.length c7, .int .i64 0, .int .i64 0, .string ⟨#[]⟩, .int .i64 0, .int .i64 M2, .bool false, .bool false]] W fun e w' => GEx W (Ch.begin_ xs p) e w') := fun W a7 c7 vs7 hW h1 h2 h3 => by
    have := goon_any _ ⟨xs, 0, 0, [], 0, M2, false, false⟩ W (hm.below hW) ⟨a7, c7, vs7, rfl, h1, h2, h3⟩ hl (by simp) hsd (by show (-9223372036854775808 : Int) ≤ 0; decide)
    unfold Ch.begin_
    rw [hM1, hM2]
    exact this.mono fun e w' q => q.ex
  generalize Ch.begin_ xs p = r at *
  obtain ⟨n, hn⟩ : ∃ n, n = xs.length := ⟨_, rfl⟩
  rw [← hn] at HCp HG ⊢
  unfold GEx at HG
  clear hn hl hwl hsd hr hx hm
  have kR1 : Hid (Rg.Bk w.heap.size [.slice none 0 0, .int .i64 0, .int .i64 0, .string ⟨#[]⟩, .int .i64 0, .int .i64 0, .bool false, .bool false] 30 (w.alloc (.cells #[.slice none 0 0, .int .i64 0, .int .i64 0, .string ⟨#[]⟩, .int .i64 0, .int .i64 0, .bool false, .bool false] 30))) := Rg.Bk.new rfl
  have hb1 := Rg.hid (Rg.al1 w (.cells #[.slice none 0 0, .int .i64 0, .int .i64 0, .string ⟨#[]⟩, .int .i64 0, .int .i64 0, .bool false, .bool false] 30))
  go_enter Tryd.func6, Tryd.ntmps6
  go_upto_region 1 with fail
  generalize World.alloc _ _ = w1 at *
  obtain ⟨R, hR⟩ : ∃ R, R = w.heap.size := ⟨_, rfl⟩
  rw [← hR] at kR1 ⊢
  have hRw : w.heap.size ≤ R := by omega
  clear hR
  go_wp2_with (first
    | (go_at_call 12; refine (HCp.out _ hb1.out).mono ?_; rintro e w2 ⟨a7, c7, vs7, rfl, hT2, hX2, hc2, b2⟩)
    | (go_at_call 11; refine (HG.out _ _ _ _ (Rg.chain hb1.out b2) hT2.out hX2.out hc2).mono ?_; rintro e w3 ⟨sa', sn', sc', step', want', seen', wait', pat', over', failed', rfl, hA3, b3⟩; have kR3 := (kR1.out.below b2 kR1.out.lt).below b3 (kR1.out.below b2 kR1.out.lt).lt; have hb3 := Rg.hid (Rg.chain (Rg.chain hb1.out b2) b3); have rf := kR3.thaw; have r0 := kR3.cell 0; have r1 := kR3.cell 1; have r2 := kR3.cell 2; have r3 := kR3.cell 3; have r4 := kR3.cell 4; have r5 := kR3.cell 5; have r6 := kR3.cell 6; have r7 := kR3.cell 7; simp only [List.getElem?_cons_zero, List.getElem?_cons_succ] at r0 r1 r2 r3 r4 r5 r6 r7))
  obtain ⟨kE, oE⟩ := ret8 kR3 rfl (.slice sa' sn' sc') (.int .i64 step') (.int .i64 want') (.string seen') (.int .i64 wait') (.int .i64 pat') (.bool over') (.bool failed')
  have hA4 := hA3.only kR3 oE
  have hb4 := hb3.out.trans (oE.bel hRw)
  generalize World.setCell _ _ _ = WE at *
  exact bodyPost_ret (v := .tuple #[.agg #[.slice sa' sn' sc', .int .i64 step', .int .i64 want', .string seen', .int .i64 wait', .int .i64 pat', .bool over', .bool failed'], .string ⟨r.2.toArray⟩]) (by simp [results, Tryd.results6, go_sem, kE.cell]) rfl ⟨_, rfl, hA4, hb4⟩
end Go.Proofs.YtpggnhnpphbaeaaDoor
