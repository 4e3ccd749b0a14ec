/-
  Layer 5, Order: stable, SortStableFunc.
-/
import Derived.Test.YtgcbaflaidehnaaDoorSrt8
namespace Go.Proofs.YtgcbaflaidehnaaDoor
open Go.RowKit

/-- the same jobs, each id's as they stood -/
def Same (d dk : List Job.Jb) : Prop := dk.length = d.length ∧ ∀ x y, Job.fk x y dk = Job.fk x y d
theorem Same.refl (d : List Job.Jb) : Same d d := ⟨rfl, fun _ _ => rfl⟩
theorem Same.turn {d dk d' : List Job.Jb} {a b : Nat} (h : Same d dk) (ht : Job.Turn a b dk d') : Same d d' := ⟨by rw [ht.len, h.1], fun x y => by rw [ht.same, h.2]⟩

set_option maxHeartbeats 8000000 in
set_option maxRecDepth 100000 in
theorem stable_any (g : Nat) (rest : List Value) (w0 : World) (hB : w0.heap.size ≤ g) (cap : Nat) (d : List Job.Jb) (hn : d.length ≤ 60) (w : World) (hw : SW g rest w0 d w) :
    Calls Tryd.prog 21 #[.slice (some ⟨g, 0, none⟩) d.length cap, .int .i64 d.length, .func (.func 13) #[] #[]] w fun e w' => SegPost g rest w0 [] d [] e w' := by
  obtain ⟨n, hnl⟩ : ∃ n, n = d.length := ⟨_, rfl⟩
  have hn60 : n ≤ 60 := by omega
  have HW : Hid (SW g rest w0 d w) := hw
  rw [← hnl]
  have hfin : Hid (∀ dk w', Same d dk → Job.Srt dk → SW g rest w0 dk w' → SegPost g rest w0 [] d [] (.returned (.tuple #[])) w') := fun dk w' h1 h2 h3 => ⟨rfl, dk, ⟨h2, h1.2⟩, by simpa using h3⟩
  replace hnl := hide hnl
  clear hw hn
  go_enter Tryd.func21, Tryd.ntmps21
  go_wp2
  go_loopw [7, 8] (fun va vb wr => ∃ (a : Nat) (dk : List Job.Jb), a ≤ n ∧ a % 20 = 0 ∧ va = .int .i64 a ∧ vb = .int .i64 (a + 20 : Nat) ∧ Hid (Job.Chu 20 0 a dk) ∧ Hid (Same d dk) ∧ Hid (SW g rest w0 dk wr)) (fun va _ _ => n - (intOf va).toNat)
  case atStart => exact ⟨0, d, Nat.zero_le _, rfl, rfl, by go_num, (fun i j h1 h2 h3 => by omega), Same.refl d, HW⟩
  case round =>
    obtain ⟨a, dk, han, ham, rfl, rfl, hC, hSm, hS⟩ := hrel
    have hdl := hSm.out.1
    by_cases hlt : a + 20 ≤ n
    · have y1 : decide ((a : Int) + 20 ≤ (n : Int)) = true := by simp; omega
      have HR := hide (ins_at g rest w0 hB cap dk a (a + 20) (by omega) (by have := hnl.out; omega) (by have := hnl.out; omega) _ hS.out)
      rw [hdl, ← hnl.out, show ((a + 20 : Nat) : Int) = (a : Int) + 20 by omega] at HR
      replace hdl := hide hdl
      go_wp2_with (go_at_call 35; refine HR.out.mono ?_; rintro e w2 ⟨rfl, d', hT, hS2⟩; replace hT := hide hT; replace hS2 := hide hS2)
      go_roundw
      case rel =>
        have hT := hT.out
        refine ⟨a + 20, d', hlt, by omega, by go_num, by go_num, ?_, hSm.out.turn hT, hS2⟩
        show Job.Chu 20 0 (a + 20) d'
        intro i j h1 h2 h3 h4
        rcases Nat.lt_or_ge j a with h5 | h5
        · rw [hT.left i (by omega), hT.left j h5]; exact hC.out i j h1 h2 h5 h4
        · exact hT.srt i j (by omega) h2 h3
      case measure => simp [intOf]; omega
    · have y1 : decide ((a : Int) + 20 ≤ (n : Int)) = false := by simp; omega
      have HR := hide (ins_at g rest w0 hB cap dk a n han (by have := hnl.out; omega) (by have := hnl.out; omega) _ hS.out)
      rw [hdl, ← hnl.out] at HR
      replace hdl := hide hdl
      have hC1 : Hid (∀ d', Job.Turn a n dk d' → Job.Chu 20 0 n d') := fun d' hT i j h1 h2 h3 h4 => by
        rcases Nat.lt_or_ge j a with h5 | h5
        · rw [hT.left i (by omega), hT.left j h5]; exact hC.out i j h1 h2 h5 h4
        · exact hT.srt i j (by omega) h2 h3
      go_wp2_with (go_at_call 35; refine HR.out.mono ?_; rintro e w2 ⟨rfl, d', hT, hS2⟩; replace hT := hide hT; replace hS2 := hide hS2)
      have hC2 := hide (hC1.out d' hT.out)
      have hSm2 := hide (hSm.out.turn hT.out)
      clear hC1 hC hSm hS hT hlt ham han
      go_loopw [6] (fun vb wr => ∃ (bs : Nat) (dk : List Job.Jb), (bs = 20 ∨ bs = 40 ∨ bs = 80) ∧ vb = .int .i64 bs ∧ Hid (Job.Chu bs 0 n dk) ∧ Hid (Same d dk) ∧ Hid (SW g rest w0 dk wr)) (fun vb _ => 80 - (intOf vb).toNat)
      case atStart => exact ⟨20, d', .inl rfl, rfl, hC2, hSm2, hS2⟩
      case round =>
        obtain ⟨bs, dk, hbs, rfl, hC, hSm, hS⟩ := hrel
        by_cases hlt : bs < n
        · rcases hbs with rfl | rfl | rfl
          · have y0 : decide ((20 : Int) < (n : Int)) = true := by simp; omega
            have hchu := hide hC.out
            go_wp2
            go_loopw [7, 8] (fun va vb wr => ∃ (a : Nat) (dk : List Job.Jb), a ≤ n ∧ a % 40 = 0 ∧ va = .int .i64 a ∧ vb = .int .i64 (a + 40 : Nat) ∧ Hid (Job.Chu 40 0 a dk) ∧ Hid (Job.Chu 20 a n dk) ∧ Hid (Same d dk) ∧ Hid (SW g rest w0 dk wr)) (fun va _ _ => n - (intOf va).toNat)
            case atStart => exact ⟨0, dk, Nat.zero_le _, rfl, rfl, by go_num, (fun i j h1 h2 h3 => by omega), hchu, hSm, hS⟩
            case round =>
              obtain ⟨a, da, han, ham, rfl, rfl, hC1, hC2, hSm1, hS1⟩ := hrel
              have hdl := hSm1.out.1
              by_cases hlt : a + 40 ≤ n
              · have y1 : decide ((a : Int) + 40 ≤ (n : Int)) = true := by simp; omega
                have HR := hide (sym_at g rest w0 hB cap da a (a + 20) (a + 40) (by omega) (by omega) (by have := hnl.out; omega) (by have := hnl.out; omega) (fun i j h1 h2 h3 => hC2.out i j h1 h2 (by omega) (by omega)) (fun i j h1 h2 h3 => hC2.out i j (by omega) h2 (by omega) (by omega)) _ hS1.out)
                rw [hdl, ← hnl.out, show ((a + 20 : Nat) : Int) = (a : Int) + 20 by omega, show ((a + 40 : Nat) : Int) = (a : Int) + 40 by omega] at HR
                replace hdl := hide hdl
                go_wp2_with (go_at_call 36; refine HR.out.mono ?_; rintro e w2 ⟨rfl, d', hT, hS2⟩; replace hT := hide hT; replace hS2 := hide hS2)
                go_roundw
                case rel =>
                  have hT := hT.out
                  first | refine ⟨a + 40, d', hlt, by omega, by go_num, by go_num, ?_, ?_, hSm1.out.turn hT, hS2⟩ | ((repeat apply Exists.intro); refine ⟨⟨a + 40, d', hlt, by omega, by go_num, by go_num, ?_, ?_, hSm1.out.turn hT, hS2⟩, rfl⟩)
                  · show Job.Chu 40 0 (a + 40) d'
                    intro i j h1 h2 h3 h4
                    rcases Nat.lt_or_ge j a with h5 | h5
                    · rw [hT.left i (by omega), hT.left j h5]; exact hC1.out i j h1 h2 h5 h4
                    · exact hT.srt i j (by omega) h2 h3
                  · show Job.Chu 20 (a + 40) n d'
                    intro i j h1 h2 h3 h4
                    rw [hT.right i h1, hT.right j (by omega)]; exact hC2.out i j (by omega) h2 h3 h4
                case measure => simp [intOf]; omega
              · have y1 : decide ((a : Int) + 40 ≤ (n : Int)) = false := by simp; omega
                by_cases hm : a + 20 < n
                · have y2 : decide ((a : Int) + 20 < (n : Int)) = true := by simp; omega
                  have HR := hide (sym_at g rest w0 hB cap da a (a + 20) n (by omega) hm (by have := hnl.out; omega) (by have := hnl.out; omega) (fun i j h1 h2 h3 => hC2.out i j h1 h2 (by omega) (by omega)) (fun i j h1 h2 h3 => hC2.out i j (by omega) h2 (by omega) (by omega)) _ hS1.out)
                  rw [hdl, ← hnl.out, show ((a + 20 : Nat) : Int) = (a : Int) + 20 by omega] at HR
                  replace hdl := hide hdl
                  go_wp2_with (go_at_call 36; refine HR.out.mono ?_; rintro e w2 ⟨rfl, d', hT, hS2⟩; replace hT := hide hT; replace hS2 := hide hS2)
                  go_roundw
                  case rel =>
                    have hT := hT.out
                    first | refine ⟨40, d', by omega, by go_num, ?_, hSm1.out.turn hT, hS2⟩ | ((repeat apply Exists.intro); refine ⟨⟨40, d', by omega, by go_num, ?_, hSm1.out.turn hT, hS2⟩, rfl⟩)
                    show Job.Chu 40 0 n d'
                    intro i j h1 h2 h3 h4
                    rcases Nat.lt_or_ge j a with h5 | h5
                    · rw [hT.left i (by omega), hT.left j h5]; exact hC1.out i j h1 h2 h5 h4
                    · exact hT.srt i j (by omega) h2 h3
                  case measure => simp [intOf]
                · have y2 : decide ((a : Int) + 20 < (n : Int)) = false := by simp; omega
                  go_wp2
                  go_roundw
                  case rel =>
                    first | refine ⟨40, da, by omega, by go_num, ?_, hSm1, hS1⟩ | ((repeat apply Exists.intro); refine ⟨⟨40, da, by omega, by go_num, ?_, hSm1, hS1⟩, rfl⟩)
                    show Job.Chu 40 0 n da
                    intro i j h1 h2 h3 h4
                    rcases Nat.lt_or_ge j a with h5 | h5
                    · exact hC1.out i j h1 h2 h5 h4
                    · exact hC2.out i j (by omega) h2 h3 (by omega)
                  case measure => simp [intOf]
          · have y0 : decide ((40 : Int) < (n : Int)) = true := by simp; omega
            have hchu := hide hC.out
            go_wp2
            go_loopw [7, 8] (fun va vb wr => ∃ (a : Nat) (dk : List Job.Jb), a ≤ n ∧ a % 80 = 0 ∧ va = .int .i64 a ∧ vb = .int .i64 (a + 80 : Nat) ∧ Hid (Job.Chu 80 0 a dk) ∧ Hid (Job.Chu 40 a n dk) ∧ Hid (Same d dk) ∧ Hid (SW g rest w0 dk wr)) (fun va _ _ => n - (intOf va).toNat)
            case atStart => exact ⟨0, dk, Nat.zero_le _, rfl, rfl, by go_num, (fun i j h1 h2 h3 => by omega), hchu, hSm, hS⟩
            case round =>
              obtain ⟨a, da, han, ham, rfl, rfl, hC1, hC2, hSm1, hS1⟩ := hrel
              have hdl := hSm1.out.1
              by_cases hlt : a + 80 ≤ n
              · have y1 : decide ((a : Int) + 80 ≤ (n : Int)) = true := by simp; omega
                have HR := hide (sym_at g rest w0 hB cap da a (a + 40) (a + 80) (by omega) (by omega) (by have := hnl.out; omega) (by have := hnl.out; omega) (fun i j h1 h2 h3 => hC2.out i j h1 h2 (by omega) (by omega)) (fun i j h1 h2 h3 => hC2.out i j (by omega) h2 (by omega) (by omega)) _ hS1.out)
                rw [hdl, ← hnl.out, show ((a + 40 : Nat) : Int) = (a : Int) + 40 by omega, show ((a + 80 : Nat) : Int) = (a : Int) + 80 by omega] at HR
                replace hdl := hide hdl
                go_wp2_with (go_at_call 36; refine HR.out.mono ?_; rintro e w2 ⟨rfl, d', hT, hS2⟩; replace hT := hide hT; replace hS2 := hide hS2)
                go_roundw
                case rel =>
                  have hT := hT.out
                  first | refine ⟨a + 80, d', hlt, by omega, by go_num, by go_num, ?_, ?_, hSm1.out.turn hT, hS2⟩ | ((repeat apply Exists.intro); refine ⟨⟨a + 80, d', hlt, by omega, by go_num, by go_num, ?_, ?_, hSm1.out.turn hT, hS2⟩, rfl⟩)
                  · show Job.Chu 80 0 (a + 80) d'
                    intro i j h1 h2 h3 h4
                    rcases Nat.lt_or_ge j a with h5 | h5
                    · rw [hT.left i (by omega), hT.left j h5]; exact hC1.out i j h1 h2 h5 h4
                    · exact hT.srt i j (by omega) h2 h3
                  · show Job.Chu 40 (a + 80) n d'
                    intro i j h1 h2 h3 h4
                    rw [hT.right i h1, hT.right j (by omega)]; exact hC2.out i j (by omega) h2 h3 h4
                case measure => simp [intOf]; omega
              · have y1 : decide ((a : Int) + 80 ≤ (n : Int)) = false := by simp; omega
                by_cases hm : a + 40 < n
                · have y2 : decide ((a : Int) + 40 < (n : Int)) = true := by simp; omega
                  have HR := hide (sym_at g rest w0 hB cap da a (a + 40) n (by omega) hm (by have := hnl.out; omega) (by have := hnl.out; omega) (fun i j h1 h2 h3 => hC2.out i j h1 h2 (by omega) (by omega)) (fun i j h1 h2 h3 => hC2.out i j (by omega) h2 (by omega) (by omega)) _ hS1.out)
                  rw [hdl, ← hnl.out, show ((a + 40 : Nat) : Int) = (a : Int) + 40 by omega] at HR
                  replace hdl := hide hdl
                  go_wp2_with (go_at_call 36; refine HR.out.mono ?_; rintro e w2 ⟨rfl, d', hT, hS2⟩; replace hT := hide hT; replace hS2 := hide hS2)
                  go_roundw
                  case rel =>
                    have hT := hT.out
                    first | refine ⟨80, d', by omega, by go_num, ?_, hSm1.out.turn hT, hS2⟩ | ((repeat apply Exists.intro); refine ⟨⟨80, d', by omega, by go_num, ?_, hSm1.out.turn hT, hS2⟩, rfl⟩)
                    show Job.Chu 80 0 n d'
                    intro i j h1 h2 h3 h4
                    rcases Nat.lt_or_ge j a with h5 | h5
                    · rw [hT.left i (by omega), hT.left j h5]; exact hC1.out i j h1 h2 h5 h4
                    · exact hT.srt i j (by omega) h2 h3
                  case measure => simp [intOf]
                · have y2 : decide ((a : Int) + 40 < (n : Int)) = false := by simp; omega
                  go_wp2
                  go_roundw
                  case rel =>
                    first | refine ⟨80, da, by omega, by go_num, ?_, hSm1, hS1⟩ | ((repeat apply Exists.intro); refine ⟨⟨80, da, by omega, by go_num, ?_, hSm1, hS1⟩, rfl⟩)
                    show Job.Chu 80 0 n da
                    intro i j h1 h2 h3 h4
                    rcases Nat.lt_or_ge j a with h5 | h5
                    · exact hC1.out i j h1 h2 h5 h4
                    · exact hC2.out i j (by omega) h2 h3 (by omega)
                  case measure => simp [intOf]
          · exfalso; omega
        · have y0 : decide ((bs : Int) < (n : Int)) = false := by simp; omega
          go_wp2
          go_end0
          exact hfin.out _ _ hSm.out (Job.srt_all fun i j h1 h2 => hC.out i j (Nat.zero_le _) h1 (by have := hSm.out.1; have := hnl.out; omega) (by
            have := hSm.out.1; have := hnl.out
            rw [Nat.div_eq_of_lt (by omega), Nat.div_eq_of_lt (by omega)])) hS.out

set_option maxHeartbeats 1000000 in
theorem sortStable_any (g : Nat) (rest : List Value) (w0 : World) (hB : w0.heap.size ≤ g) (cap : Nat) (d : List Job.Jb) (hn : d.length ≤ 60) (w : World) (hw : SW g rest w0 d w) :
    Calls Tryd.prog 12 #[.slice (some ⟨g, 0, none⟩) d.length cap, .func (.func 13) #[] #[]] w fun e w' => SegPost g rest w0 [] d [] e w' := by
  have HR := hide (stable_any g rest w0 hB cap d hn w hw)
  go_enter Tryd.func12, Tryd.ntmps12
  go_wp2_with (go_at_call 21; refine HR.out.mono ?_; rintro e w2 ⟨rfl, S, h1, h2⟩)
  go_end0
  exact ⟨rfl, S, h1, h2⟩
end Go.Proofs.YtgcbaflaidehnaaDoor
