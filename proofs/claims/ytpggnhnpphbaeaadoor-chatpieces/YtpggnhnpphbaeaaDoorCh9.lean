/-
  Layer 8: Parse.
-/
import Derived.Test.YtpggnhnpphbaeaaDoorCh8
namespace Go.Proofs.YtpggnhnpphbaeaaDoor
open Go.RowKit

theorem fields_any (s : ByteArray) (W : World) (hW : Env W) (hs : s.size ≤ 300) (ho : s.data.toList.any (fun b => Ch.odd b.toNat) = false) : Calls Tryd.prog 17 #[.string s] W fun e w' => e = .returned (.slice (some ⟨W.heap.size, 0, none⟩) (Ch.words s).length (Ch.words s).length) ∧ Rg.Tow strE w' (some ⟨W.heap.size, 0, none⟩) (Ch.words s) ∧ Below W.heap.size W w' := by
  refine (Tryd.strings_Fields s W (by omega) (fun j b hj => ?_) hW.tab).mono fun e w' ⟨h1, h2⟩ => ?_
  · have h := List.any_eq_false.1 ho b (List.mem_of_getElem? hj)
    simp [Ch.odd] at h
    omega
  · subst h2
    have hk : Rg.Bk W.heap.size ((Ch.words s).map Value.string) 9 (W.alloc (.cells ((Lib.fields s.data.toList).map fun l => Value.string ⟨l.toArray⟩).toArray 9)) := by
      have := Rg.Bk.new (b := W.heap.size) (C := (Lib.fields s.data.toList).map fun l => Value.string ⟨l.toArray⟩) (ty := 9) (W := W) rfl
      unfold Ch.words
      rw [List.map_map]
      exact this
    refine ⟨?_, ⟨.inr ⟨_, 0, rfl, hk.lt, fun t u ht => ?_⟩, fun b o e => by injection e with e; injection e with e1 e2; subst e1; exact ⟨_, hk⟩⟩, Rg.al1 _ _⟩
    · rw [h1]; unfold Ch.words; rw [List.length_map]
    · rw [Nat.zero_add, hk.cell]
      rw [str_flat] at ht
      exact ht

set_option maxHeartbeats 2000000 in
set_option maxRecDepth 100000 in
theorem parse_many (s : ByteArray) (w : World) (hE : Env w) (hs : s.size ≤ 300) (ho : s.data.toList.any (fun b => Ch.odd b.toNat) = false) (hn : 40 < (Ch.words s).length) : Calls Tryd.prog 10 #[.string s] w fun e w' => PPost w ([], 5) e w' := by
  have d0 : decide ((300 : Int) < (s.size : Int)) = false := by simp only [decide_eq_false_iff_not]; omega
  have HC : Hid (∀ W, Calls Tryd.prog 15 #[.string s, .func (.func 16) #[] #[]] W fun e w' => e = .returned (.bool false) ∧ Below W.heap.size W w') := fun W => by rw [← ho]; exact contains_any s W
  have HF : Hid (∀ W, Env W → Calls Tryd.prog 17 #[.string s] W fun e w' => e = .returned (.slice (some ⟨W.heap.size, 0, none⟩) (Ch.words s).length (Ch.words s).length) ∧ Rg.Tow strE w' (some ⟨W.heap.size, 0, none⟩) (Ch.words s) ∧ Below W.heap.size W w') := fun W hW => fields_any s W hW hs ho
  clear ho
  obtain ⟨ps, hps⟩ : ∃ ps, ps = Ch.words s := ⟨_, rfl⟩
  rw [← hps] at HF hn
  have hsz : Hid (∀ p ∈ ps, p.size ≤ 100000) := fun p hp => by rw [hps] at hp; have := Ch.words_size hp; omega
  clear hps
  obtain ⟨N, hN⟩ : ∃ N, N = ps.length := ⟨_, rfl⟩
  rw [← hN] at HF hn
  replace hN := Rg.hid hN
  replace hE := Rg.hid hE
  have hmf : ∀ (fn : Fn) (first cap : Array Value) (w : World), (Instr.makeFunc fn first cap).run Tryd.prog w = .ok (.func fn first cap) w := fun _ _ _ _ => rfl
  have kP1 : Hid (Rg.Bk w.heap.size [.slice none 0 0] 22 ((w.alloc (.cells #[.slice none 0 0] 22)).alloc (.cells #[.int .i64 0] 38))) := (Rg.Bk.new rfl).old _
  have kQ1 : Hid (Rg.Bk (w.heap.size + 1) [.int .i64 0] 38 ((w.alloc (.cells #[.slice none 0 0] 22)).alloc (.cells #[.int .i64 0] 38))) := Rg.Bk.new (by simp)
  have hb1 := Rg.hid (Rg.al2 w (.cells #[.slice none 0 0] 22) (.cells #[.int .i64 0] 38))
  go_enter_defers Tryd.func10, Tryd.ntmps10
  go_upto_region 1 with fail
  generalize World.alloc _ _ = w1 at *
  obtain ⟨P, hP⟩ : ∃ P, P = w.heap.size := ⟨_, rfl⟩
  obtain ⟨Q, hQ⟩ : ∃ Q, Q = w.heap.size + 1 := ⟨_, rfl⟩
  rw [← hQ] at kQ1 ⊢
  rw [← hP] at kP1 ⊢
  have hPQ : P ≠ Q := by omega
  have hPw : w.heap.size ≤ P := by omega
  have hQw : w.heap.size ≤ Q := by omega
  clear hP hQ
  go_upto_region 6 with (first
    | (go_at_call 15; refine (HC.out _).mono ?_; rintro e w2 ⟨rfl, b2⟩)
    | (go_at_call 17; refine (HF.out _ (hE.out.below (Rg.chain hb1.out b2))).mono ?_; rintro e w3 ⟨rfl, hT, b3⟩))
  have b3' := Rg.chain b2 b3
  have kP3 := kP1.out.below b3' kP1.out.lt
  have kQ3 := kQ1.out.below b3' kQ1.out.lt
  have hb3 := Rg.hid (Rg.chain hb1.out b3')
  have hE3 := Rg.hid (hE.out.below hb3.out)
  replace hT := Rg.hid hT
  generalize w2.heap.size = WB at *
  clear kP1 kQ1 hb1 b2 b3 b3' HC HF hE
  have d2 : decide ((40 : Int) < (N : Int)) = true := by simp only [decide_eq_true_eq]; omega
  clear hn hE3 hT
  go_upto_region 7 with fail
  have z0 : w3.cell? ⟨P, 0, none⟩ = some (.slice none 0 0) := kP3.cell 0
  have z1 : w3.cell? ⟨Q, 0, none⟩ = some (.int .i64 0) := kQ3.cell 0
  have f0 := kP3.thaw
  have f1 := kQ3.thaw
  have hfin := Rg.hid (retPQ w w3 P Q (.slice none 0 0) 0 (.slice none 0 0) 5 kP3 kQ3 hPQ hPw hQw hb3.out)
  clear kP3 kQ3
  go_wp2
  replace hfin := hfin.out
  generalize World.setCell _ _ _ = WE at *
  obtain ⟨hE1, hF1, hB⟩ := hfin
  refine ⟨.tuple #[.slice none 0 0, .int .i64 5], by simp [results, Tryd.results10, go_sem, hE1.cell, hF1.cell], none, 0, [], rfl, Rg.Tow.nil, trivial, Nat.le_refl _, hB⟩

set_option maxHeartbeats 2000000 in
set_option maxRecDepth 100000 in
theorem parse_bad (s : ByteArray) (w : World) (hE : Env w) (hs : s.size ≤ 300) (ho : s.data.toList.any (fun b => Ch.odd b.toNat) = false) (hn : (Ch.words s).length ≤ 40) (hrd : Ch.rd 0 (Ch.words s) [] = none) : Calls Tryd.prog 10 #[.string s] w fun e w' => PPost w ([], 3) e w' := by
  have d0 : decide ((300 : Int) < (s.size : Int)) = false := by simp only [decide_eq_false_iff_not]; omega
  have HC : Hid (∀ W, Calls Tryd.prog 15 #[.string s, .func (.func 16) #[] #[]] W fun e w' => e = .returned (.bool false) ∧ Below W.heap.size W w') := fun W => by rw [← ho]; exact contains_any s W
  have HF : Hid (∀ W, Env W → Calls Tryd.prog 17 #[.string s] W fun e w' => e = .returned (.slice (some ⟨W.heap.size, 0, none⟩) (Ch.words s).length (Ch.words s).length) ∧ Rg.Tow strE w' (some ⟨W.heap.size, 0, none⟩) (Ch.words s) ∧ Below W.heap.size W w') := fun W hW => fields_any s W hW hs ho
  clear ho
  obtain ⟨ps, hps⟩ : ∃ ps, ps = Ch.words s := ⟨_, rfl⟩
  rw [← hps] at HF hn hrd
  have hsz : Hid (∀ p ∈ ps, p.size ≤ 100000) := fun p hp => by rw [hps] at hp; have := Ch.words_size hp; omega
  clear hps
  obtain ⟨N, hN⟩ : ∃ N, N = ps.length := ⟨_, rfl⟩
  rw [← hN] at HF hn
  replace hN := Rg.hid hN
  replace hrd := Rg.hid hrd
  replace hE := Rg.hid hE
  have hmf : ∀ (fn : Fn) (first cap : Array Value) (w : World), (Instr.makeFunc fn first cap).run Tryd.prog w = .ok (.func fn first cap) w := fun _ _ _ _ => rfl
  have kP1 : Hid (Rg.Bk w.heap.size [.slice none 0 0] 22 ((w.alloc (.cells #[.slice none 0 0] 22)).alloc (.cells #[.int .i64 0] 38))) := (Rg.Bk.new rfl).old _
  have kQ1 : Hid (Rg.Bk (w.heap.size + 1) [.int .i64 0] 38 ((w.alloc (.cells #[.slice none 0 0] 22)).alloc (.cells #[.int .i64 0] 38))) := Rg.Bk.new (by simp)
  have hb1 := Rg.hid (Rg.al2 w (.cells #[.slice none 0 0] 22) (.cells #[.int .i64 0] 38))
  go_enter_defers Tryd.func10, Tryd.ntmps10
  go_upto_region 1 with fail
  generalize World.alloc _ _ = w1 at *
  obtain ⟨P, hP⟩ : ∃ P, P = w.heap.size := ⟨_, rfl⟩
  obtain ⟨Q, hQ⟩ : ∃ Q, Q = w.heap.size + 1 := ⟨_, rfl⟩
  rw [← hQ] at kQ1 ⊢
  rw [← hP] at kP1 ⊢
  have hPQ : P ≠ Q := by omega
  have hPw : w.heap.size ≤ P := by omega
  have hQw : w.heap.size ≤ Q := by omega
  clear hP hQ
  go_upto_region 6 with (first
    | (go_at_call 15; refine (HC.out _).mono ?_; rintro e w2 ⟨rfl, b2⟩)
    | (go_at_call 17; refine (HF.out _ (hE.out.below (Rg.chain hb1.out b2))).mono ?_; rintro e w3 ⟨rfl, hT, b3⟩))
  have b3' := Rg.chain b2 b3
  have kP3 := kP1.out.below b3' kP1.out.lt
  have kQ3 := kQ1.out.below b3' kQ1.out.lt
  have hb3 := Rg.hid (Rg.chain hb1.out b3')
  have hE3 := Rg.hid (hE.out.below hb3.out)
  replace hT := Rg.hid hT
  generalize w2.heap.size = WB at *
  clear kP1 kQ1 hb1 b2 b3 b3' HC HF hE
  have d2 : decide ((40 : Int) < (N : Int)) = false := by simp only [decide_eq_false_iff_not]; omega
  have HR : Hid (∀ W, Below w3.heap.size w3 W → Calls Tryd.prog 19 #[.slice (some ⟨WB, 0, none⟩) N N] W fun e w' => e = .panicked [giveUp] ∧ Below w3.heap.size w3 w') := fun W hW => by
    have := rwords_any WB N ps W (by rw [← hN.out]; omega) hsz.out (hE3.out.max.below hW) (hT.out.below hW)
    rw [← hN.out, hrd.out] at this
    exact this.mono fun e w' ⟨h1, h2⟩ => ⟨h2, Rg.chain hW h1⟩
  clear hrd hT hE3
  go_wp2_with (go_at_call 19; refine (HR.out _ (Below.refl _ _)).mono ?_; rintro e w4 ⟨rfl, b4⟩)
  have kP4 := kP3.below b4 kP3.lt
  have kQ4 := kQ3.below b4 kQ3.lt
  have hb4 := Rg.chain hb3.out b4
  clear kP3 kQ3 hb3 b4 HR
  refine leaves_cons (f := 18) (args := #[.pointer (some ⟨P, 0, none⟩), .pointer (some ⟨Q, 0, none⟩)]) (by simp) (by simp [go_sem]) ?_
  refine (catch_panicking P Q w.heap.size _ _ w4 kP4 kQ4 hPQ hPw hQw).mono ?_
  rintro e u' w5 ⟨rfl, rfl, b5, kP5, kQ5⟩
  have hb5 := hb4.trans b5
  refine ⟨.tuple #[.slice none 0 0, .int .i64 3], by simp [results, Tryd.results10, go_sem, kP5.cell, kQ5.cell], none, 0, [], rfl, Rg.Tow.nil, trivial, Nat.le_refl _, hb5⟩

set_option maxHeartbeats 2000000 in
set_option maxRecDepth 100000 in
theorem parse_ok (s : ByteArray) (w : World) (hE : Env w) (hs : s.size ≤ 300) (ho : s.data.toList.any (fun b => Ch.odd b.toNat) = false) (xs : List Ch.St) (hn : (Ch.words s).length ≤ 40) (hrd : Ch.rd 0 (Ch.words s) [] = some xs) : Calls Tryd.prog 10 #[.string s] w fun e w' => PPost w (xs, 0) e w' := by
  have d0 : decide ((300 : Int) < (s.size : Int)) = false := by simp only [decide_eq_false_iff_not]; omega
  have HC : Hid (∀ W, Calls Tryd.prog 15 #[.string s, .func (.func 16) #[] #[]] W fun e w' => e = .returned (.bool false) ∧ Below W.heap.size W w') := fun W => by rw [← ho]; exact contains_any s W
  have HF : Hid (∀ W, Env W → Calls Tryd.prog 17 #[.string s] W fun e w' => e = .returned (.slice (some ⟨W.heap.size, 0, none⟩) (Ch.words s).length (Ch.words s).length) ∧ Rg.Tow strE w' (some ⟨W.heap.size, 0, none⟩) (Ch.words s) ∧ Below W.heap.size W w') := fun W hW => fields_any s W hW hs ho
  clear ho
  obtain ⟨ps, hps⟩ : ∃ ps, ps = Ch.words s := ⟨_, rfl⟩
  rw [← hps] at HF hn hrd
  have hsz : Hid (∀ p ∈ ps, p.size ≤ 100000) := fun p hp => by rw [hps] at hp; have := Ch.words_size hp; omega
  clear hps
  obtain ⟨N, hN⟩ : ∃ N, N = ps.length := ⟨_, rfl⟩
  rw [← hN] at HF hn
  replace hN := Rg.hid hN
  replace hrd := Rg.hid hrd
  replace hE := Rg.hid hE
  have hmf : ∀ (fn : Fn) (first cap : Array Value) (w : World), (Instr.makeFunc fn first cap).run Tryd.prog w = .ok (.func fn first cap) w := fun _ _ _ _ => rfl
  have kP1 : Hid (Rg.Bk w.heap.size [.slice none 0 0] 22 ((w.alloc (.cells #[.slice none 0 0] 22)).alloc (.cells #[.int .i64 0] 38))) := (Rg.Bk.new rfl).old _
  have kQ1 : Hid (Rg.Bk (w.heap.size + 1) [.int .i64 0] 38 ((w.alloc (.cells #[.slice none 0 0] 22)).alloc (.cells #[.int .i64 0] 38))) := Rg.Bk.new (by simp)
  have hb1 := Rg.hid (Rg.al2 w (.cells #[.slice none 0 0] 22) (.cells #[.int .i64 0] 38))
  go_enter_defers Tryd.func10, Tryd.ntmps10
  go_upto_region 1 with fail
  generalize World.alloc _ _ = w1 at *
  obtain ⟨P, hP⟩ : ∃ P, P = w.heap.size := ⟨_, rfl⟩
  obtain ⟨Q, hQ⟩ : ∃ Q, Q = w.heap.size + 1 := ⟨_, rfl⟩
  rw [← hQ] at kQ1 ⊢
  rw [← hP] at kP1 ⊢
  have hPQ : P ≠ Q := by omega
  have hPw : w.heap.size ≤ P := by omega
  have hQw : w.heap.size ≤ Q := by omega
  clear hP hQ
  go_upto_region 6 with (first
    | (go_at_call 15; refine (HC.out _).mono ?_; rintro e w2 ⟨rfl, b2⟩)
    | (go_at_call 17; refine (HF.out _ (hE.out.below (Rg.chain hb1.out b2))).mono ?_; rintro e w3 ⟨rfl, hT, b3⟩))
  have b3' := Rg.chain b2 b3
  have kP3 := kP1.out.below b3' kP1.out.lt
  have kQ3 := kQ1.out.below b3' kQ1.out.lt
  have hb3 := Rg.hid (Rg.chain hb1.out b3')
  have hE3 := Rg.hid (hE.out.below hb3.out)
  replace hT := Rg.hid hT
  generalize w2.heap.size = WB at *
  clear kP1 kQ1 hb1 b2 b3 b3' HC HF hE
  have d2 : decide ((40 : Int) < (N : Int)) = false := by simp only [decide_eq_false_iff_not]; omega
  have HR : Hid (∀ W, Below w3.heap.size w3 W → Calls Tryd.prog 19 #[.slice (some ⟨WB, 0, none⟩) N N] W fun e w' => ∃ a M c vs, e = .returned (.slice a M c) ∧ Hid (M = xs.length) ∧ Hid (Rg.Tow stepE w' a vs) ∧ Hid (StsAt w' vs xs) ∧ M ≤ c ∧ Hid (Below w3.heap.size w3 w')) := fun W hW => by
    have := rwords_any WB N ps W (by rw [← hN.out]; omega) hsz.out (hE3.out.max.below hW) (hT.out.below hW)
    rw [← hN.out, hrd.out] at this
    exact this.mono fun e w' ⟨h1, a, c, vs, h2, h3, h4, h5⟩ => ⟨a, _, c, vs, h2, rfl, h3, h4, h5, Rg.chain hW h1⟩
  clear hrd hT hE3
  replace kP3 := Rg.hid kP3
  replace kQ3 := Rg.hid kQ3
  go_wp2_with (go_at_call 19; refine (HR.out _ (Below.refl _ _)).mono ?_; rintro e w4 ⟨a4, M4, c4, vs4, rfl, hM4, hT4, hX4, hc4, b4⟩; have kP4 := kP3.out.below b4.out kP3.out.lt; have kQ4 := kQ3.out.below b4.out kQ3.out.lt; have z0 := kP4.cell 0; have z1 := kQ4.cell 0; have f0 := kP4.thaw; have f1 := kQ4.thaw; simp only [List.getElem?_cons_zero] at z0 z1)
  have hfin := retPQ w w4 P Q (.slice none 0 0) 0 (.slice a4 M4 c4) 0 kP4 kQ4 hPQ hPw hQw (Rg.chain hb3.out b4.out)
  have o1 := Rg.Only.setCell w4 P 0 (.slice a4 M4 c4)
  have o2 := Rg.Only.setCell (w4.setCell ⟨P, 0, none⟩ (.slice a4 M4 c4)) Q 0 (.int .i64 0)
  have kQ4' := kQ4.same (o1.block Q (Ne.symm hPQ))
  have hT5 := Rg.hid ((hT4.out.only kP4 (by decide) o1).only kQ4' (by decide) o2)
  have hX5 := Rg.hid ((hX4.out.only kP4 (by decide) o1).only kQ4' (by decide) o2)
  obtain ⟨hE5, hF5, hB5⟩ := hfin
  clear kP4 kQ4 kQ4' o1 o2 z0 z1 f0 f1 hT4 hX4 b4 HR kP3 kQ3 hb3
  generalize World.setCell _ _ _ = w5 at *
  refine leaves_cons (f := 18) (args := #[.pointer (some ⟨P, 0, none⟩), .pointer (some ⟨Q, 0, none⟩)]) (by simp) (by simp [go_sem]) ?_
  refine (catch_idle ⟨P, 0, none⟩ ⟨Q, 0, none⟩ w5).mono ?_
  rintro e u' w6 ⟨rfl, rfl, rfl⟩
  refine ⟨.tuple #[.slice a4 M4 c4, .int .i64 0], by simp [results, Tryd.results10, go_sem, hE5.cell, hF5.cell], a4, c4, vs4, by rw [← hM4.out], hT5.out, hX5.out, by rw [← hM4.out]; exact hc4, hB5⟩
theorem parse_any (s : ByteArray) (w : World) (hE : Env w) : Calls Tryd.prog 10 #[.string s] w fun e w' => PPost w (Ch.parse s) e w' := by
  unfold Ch.parse
  split
  · rename_i h; exact parse_long s w h
  · rename_i h
    split
    · rename_i h2; exact parse_odd s w (by omega) h2
    · rename_i h2
      split
      · rename_i h3; exact parse_many s w hE (by omega) (by simpa using h2) h3
      · rename_i h3
        split
        · rename_i h4; exact parse_bad s w hE (by omega) (by simpa using h2) (by omega) h4
        · rename_i l h4; exact parse_ok s w hE (by omega) (by simpa using h2) l (by omega) h4
end Go.Proofs.YtpggnhnpphbaeaaDoor
