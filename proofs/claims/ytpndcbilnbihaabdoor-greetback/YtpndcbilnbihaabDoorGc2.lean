/-
  Layer 9: ParseCall, the program's.
-/
import Derived.Test.YtpndcbilnbihaabDoorGc1
namespace Go.Proofs.YtpndcbilnbihaabDoor
open Go.RowKit

/-- the variable bytealg.MaxLen holds some number -/
def MxIn (w : World) : Prop := ∃ m : Int, w.cell? ⟨0, 0, none⟩ = some (.int .i64 m)
theorem MxIn.below {w w' : World} (h : MxIn w) (hb : Below w.heap.size w w') : MxIn w' := by
  obtain ⟨m, h⟩ := h
  have hlt : 0 < w.heap.size := World.block_lt_of_cell? _ _ h
  exact ⟨m, by rw [World.cell?_of_block (a := ⟨0, 0, none⟩) (hb.block _ hlt)]; exact h⟩
theorem ret_aggc {a c : ByteArray} {b d e f : Int} (h : a = c) (h2 : b = d) (h3 : e = f) : Ending.returned (.tuple #[.agg #[.string a, .int .i64 b], .int .i64 e]) = .returned (.tuple #[.agg #[.string c, .int .i64 d], .int .i64 f]) := by rw [h, h2, h3]
theorem ret2' {b : Nat} {C : List Value} {ty : TypeId} {W : World} (h : Rg.Bk b C ty W) (hC : C.length = 2) (a0 a1 : Value) :
    Rg.Bk b [a0, a1] ty ((W.setCell ⟨b, 0, none⟩ a0).setCell ⟨b, 1, none⟩ a1) ∧ Rg.Only b W ((W.setCell ⟨b, 0, none⟩ a0).setCell ⟨b, 1, none⟩ a1) := by
  refine ⟨?_, (Rg.Only.setCell W b 0 a0).trans (Rg.Only.setCell _ b 1 a1)⟩
  have := (h.set 0 a0).set 1 a1
  match C, hC with
  | [_, _], _ => simpa using this
theorem trim_len (s : ByteArray) (p : List UInt8) : (Lib.trimPrefix s.data.toList p).length ≤ s.size := by
  unfold Lib.trimPrefix
  split
  · rw [List.length_drop, Array.length_toList]; exact Nat.sub_le _ _
  · rw [Array.length_toList]; exact Nat.le_refl _
theorem cut_len (l p : List UInt8) : (Lib.cut l p).1.length ≤ l.length ∧ (Lib.cut l p).2.1.length ≤ l.length := by
  unfold Lib.cut
  split
  · simp only [List.length_take, List.length_drop]; omega
  · simp

set_option maxHeartbeats 1000000 in
set_option maxRecDepth 100000 in
theorem pcall_any (s : ByteArray) (w : World) (hs : s.size ≤ 4000000) (hm : MxIn w) :
    Calls Tryd.prog 9 #[.string s] w fun e w' => e = .returned (.tuple #[.agg #[.string ⟨(Gr.pcl s.data.toList).1.toArray⟩, .int .i64 (Gr.pcl s.data.toList).2.1], .int .i64 (Gr.pcl s.data.toList).2.2]) ∧ Below w.heap.size w w' := by
  have HC : Hid (∀ W, Calls Tryd.prog 20 #[.string s, .string ⟨#[83]⟩] W fun e w' => e = .returned (.tuple #[.string ⟨(Lib.trimPrefix s.data.toList [83]).toArray⟩, .bool (Lib.hasPrefix s.data.toList [83])]) ∧ W = w') := fun W => (Tryd.strings_CutPrefix s ⟨#[83]⟩ W).mono fun e w' h => ⟨h.1, h.2.symm⟩
  have htl := trim_len s [83]
  have b0 := Rg.hid (Rg.al1 w (.cells #[.string ⟨#[]⟩, .int .i64 0] 23))
  have kR : Hid (Rg.Bk w.heap.size [.string ⟨#[]⟩, .int .i64 0] 23 (w.alloc (.cells #[.string ⟨#[]⟩, .int .i64 0] 23))) := Rg.Bk.new rfl
  obtain ⟨r, hrr⟩ : ∃ r, Lib.trimPrefix s.data.toList [83] = r := ⟨_, rfl⟩
  rw [hrr] at HC htl
  have hcl := cut_len r Gr.sep
  have HX : Hid (∀ W, Below w.heap.size w W → Calls Tryd.prog 21 #[.string ⟨r.toArray⟩, .string ⟨#[32, 45, 81]⟩] W fun e w' => e = .returned (.tuple #[.string ⟨(Lib.cut r Gr.sep).1.toArray⟩, .string ⟨(Lib.cut r Gr.sep).2.1.toArray⟩, .bool (Lib.cut r Gr.sep).2.2]) ∧ Below W.heap.size W w') := fun W hW => by
    obtain ⟨m, hm2⟩ := hm.below hW
    refine (Tryd.strings_Cut ⟨r.toArray⟩ ⟨#[32, 45, 81]⟩ m W (by show r.toArray.size < _; rw [List.size_toArray]; omega) hm2).mono fun e w' h => ⟨h.1, ?_⟩
    obtain ⟨q, rfl⟩ := h.2
    exact bel_dN (Below.refl _ _) q
  have HN : Hid (∀ W, Calls Tryd.prog 22 #[.string ⟨(Lib.cut r Gr.sep).2.1.toArray⟩] W fun e w' => e = .returned (.tuple #[.int .i64 (Oct.number (Lib.cut r Gr.sep).2.1).1, .int .i64 (Oct.number (Lib.cut r Gr.sep).2.1).2]) ∧ W = w') := fun W => (number_any ⟨(Lib.cut r Gr.sep).2.1.toArray⟩ W (by show (Lib.cut r Gr.sep).2.1.toArray.size ≤ _; rw [List.size_toArray]; unfold maxLen; omega)).mono fun e w' h => ⟨h.1, h.2.symm⟩
  have HS0 : Hid (∀ W, Calls Tryd.prog 17 #[.string ⟨(Lib.cut r Gr.sep).1.toArray⟩] W fun e w' => e = .returned (.bool (Nam.system (Lib.cut r Gr.sep).1)) ∧ W = w') := fun W => (system_any ⟨(Lib.cut r Gr.sep).1.toArray⟩ W (by show (Lib.cut r Gr.sep).1.toArray.size ≤ _; rw [List.size_toArray]; unfold maxLen; omega)).mono fun e w' h => ⟨h.1, h.2.symm⟩
  cases hp : Lib.hasPrefix s.data.toList [83] with
  | false =>
    have hr : Hid (Gr.pcl s.data.toList = ([], 0, 3)) := Gr.pcl_head hp
    rw [hp] at HC
    generalize (Oct.number (Lib.cut r Gr.sep).2.1).1 = m at *
    generalize (Oct.number (Lib.cut r Gr.sep).2.1).2 = q at *
    generalize (Lib.cut r Gr.sep).1 = ca at *
    generalize (Lib.cut r Gr.sep).2.1 = cb at *
    generalize (Lib.cut r Gr.sep).2.2 = cf at *
    clear HS0 hp hrr htl hcl hm hs
    go_enter Tryd.func9, Tryd.ntmps9
    go_upto_region 2 with (go_at_call 20; refine (HC.out _).mono ?_; rintro e w' ⟨rfl, rfl⟩)
    generalize World.alloc _ _ = w1 at *
    go_upto_region 3 with (go_at_call 21; refine (HX.out _ b0.out).mono ?_; rintro e w2 ⟨rfl, b2⟩)
    have kR2 := kR.out.below b2 kR.out.lt
    have hb2 := b0.out.trans (b2.mono b0.out.size)
    have rf := kR2.thaw
    have r0 := kR2.cell 0
    have r1 := kR2.cell 1
    clear kR b0
    go_wp2_with (first | (go_at_call 22; refine (HN.out _).mono ?_; rintro e w' ⟨rfl, rfl⟩))
    obtain ⟨kE, oE⟩ := ret2' kR2 rfl (.string ⟨#[]⟩) (.int .i64 0)
    have hb5 := hb2.trans (oE.bel (Nat.le_refl _))
    generalize World.setCell _ _ _ = WE at *
    exact bodyPost_ret (v := .tuple #[.agg #[.string ⟨#[]⟩, .int .i64 0], .int .i64 3]) (by simp [results, Tryd.results9, go_sem, kE.cell]) rfl ⟨ret_aggc (by rw [hr.out]) (by rw [hr.out] <;> rfl) (by rw [hr.out] <;> rfl), hb5⟩
  | true =>
    have he : r = s.data.toList.drop 1 := by rw [← hrr]; unfold Lib.trimPrefix; rw [if_pos hp]; rfl
    have hpc : Hid (Gr.pcl s.data.toList = if Nam.system (Lib.cut r Gr.sep).1 = true ∧ (Oct.number (Lib.cut r Gr.sep).2.1).2 = 0 then ((Lib.cut r Gr.sep).1, (Oct.number (Lib.cut r Gr.sep).2.1).1, 0) else ([], 0, 3)) := by show _ = _; unfold Gr.pcl; rw [← he, hp]; simp only [true_and]
    rw [hp] at HC
    clear he hrr hp
    generalize Nam.system (Lib.cut r Gr.sep).1 = y at *
    generalize (Oct.number (Lib.cut r Gr.sep).2.1).1 = m at *
    generalize (Oct.number (Lib.cut r Gr.sep).2.1).2 = q at *
    generalize (Lib.cut r Gr.sep).1 = ca at *
    generalize (Lib.cut r Gr.sep).2.1 = cb at *
    generalize (Lib.cut r Gr.sep).2.2 = cf at *
    have HS := HS0
    clear htl hcl hm hs HS0
    cases y with
    | false =>
      have hr : Hid (Gr.pcl s.data.toList = ([], 0, 3)) := by show _ = _; rw [hpc.out, if_neg (by simp)]
      clear hpc
      go_enter Tryd.func9, Tryd.ntmps9
      go_upto_region 2 with (go_at_call 20; refine (HC.out _).mono ?_; rintro e w' ⟨rfl, rfl⟩)
      generalize World.alloc _ _ = w1 at *
      go_upto_region 3 with (go_at_call 21; refine (HX.out _ b0.out).mono ?_; rintro e w2 ⟨rfl, b2⟩)
      have kR2 := kR.out.below b2 kR.out.lt
      have hb2 := b0.out.trans (b2.mono b0.out.size)
      have rf := kR2.thaw
      have r0 := kR2.cell 0
      have r1 := kR2.cell 1
      clear kR b0
      go_wp2_with (first | (go_at_call 22; refine (HN.out _).mono ?_; rintro e w' ⟨rfl, rfl⟩) | (go_at_call 17; refine (HS.out _).mono ?_; rintro e w' ⟨rfl, rfl⟩))
      obtain ⟨kE, oE⟩ := ret2' kR2 rfl (.string ⟨#[]⟩) (.int .i64 0)
      have hb5 := hb2.trans (oE.bel (Nat.le_refl _))
      generalize World.setCell _ _ _ = WE at *
      exact bodyPost_ret (v := .tuple #[.agg #[.string ⟨#[]⟩, .int .i64 0], .int .i64 3]) (by simp [results, Tryd.results9, go_sem, kE.cell]) rfl ⟨ret_aggc (by rw [hr.out]) (by rw [hr.out] <;> rfl) (by rw [hr.out] <;> rfl), hb5⟩
    | true =>
      by_cases hq : q = 0
      · subst hq
        have hr : Hid (Gr.pcl s.data.toList = (ca, m, 0)) := by show _ = _; rw [hpc.out, if_pos ⟨rfl, rfl⟩]
        clear hpc
        go_enter Tryd.func9, Tryd.ntmps9
        go_upto_region 2 with (go_at_call 20; refine (HC.out _).mono ?_; rintro e w' ⟨rfl, rfl⟩)
        generalize World.alloc _ _ = w1 at *
        go_upto_region 3 with (go_at_call 21; refine (HX.out _ b0.out).mono ?_; rintro e w2 ⟨rfl, b2⟩)
        have kR2 := kR.out.below b2 kR.out.lt
        have hb2 := b0.out.trans (b2.mono b0.out.size)
        have rf := kR2.thaw
        have r0 := kR2.cell 0
        have r1 := kR2.cell 1
        clear kR b0
        go_wp2_with (first | (go_at_call 22; refine (HN.out _).mono ?_; rintro e w' ⟨rfl, rfl⟩) | (go_at_call 17; refine (HS.out _).mono ?_; rintro e w' ⟨rfl, rfl⟩))
        obtain ⟨kE, oE⟩ := ret2' kR2 rfl (.string ⟨ca.toArray⟩) (.int .i64 m)
        have hb5 := hb2.trans (oE.bel (Nat.le_refl _))
        generalize World.setCell _ _ _ = WE at *
        exact bodyPost_ret (v := .tuple #[.agg #[.string ⟨ca.toArray⟩, .int .i64 m], .int .i64 0]) (by simp [results, Tryd.results9, go_sem, kE.cell]) rfl ⟨ret_aggc (by rw [hr.out]) (by rw [hr.out] <;> rfl) (by rw [hr.out] <;> rfl), hb5⟩
      · have hr : Hid (Gr.pcl s.data.toList = ([], 0, 3)) := by show _ = _; rw [hpc.out, if_neg (fun h => hq h.2)]
        have c0 : ((q : Int) != 0) = true := by rw [bne_iff_ne]; omega
        have c1 : (q != 0) = true := by rw [bne_iff_ne]; exact hq
        clear hpc hq
        go_enter Tryd.func9, Tryd.ntmps9
        go_upto_region 2 with (go_at_call 20; refine (HC.out _).mono ?_; rintro e w' ⟨rfl, rfl⟩)
        generalize World.alloc _ _ = w1 at *
        go_upto_region 3 with (go_at_call 21; refine (HX.out _ b0.out).mono ?_; rintro e w2 ⟨rfl, b2⟩)
        have kR2 := kR.out.below b2 kR.out.lt
        have hb2 := b0.out.trans (b2.mono b0.out.size)
        have rf := kR2.thaw
        have r0 := kR2.cell 0
        have r1 := kR2.cell 1
        clear kR b0
        go_wp2_with (first | (go_at_call 22; refine (HN.out _).mono ?_; rintro e w' ⟨rfl, rfl⟩) | (go_at_call 17; refine (HS.out _).mono ?_; rintro e w' ⟨rfl, rfl⟩))
        obtain ⟨kE, oE⟩ := ret2' kR2 rfl (.string ⟨#[]⟩) (.int .i64 0)
        have hb5 := hb2.trans (oE.bel (Nat.le_refl _))
        generalize World.setCell _ _ _ = WE at *
        exact bodyPost_ret (v := .tuple #[.agg #[.string ⟨#[]⟩, .int .i64 0], .int .i64 3]) (by simp [results, Tryd.results9, go_sem, kE.cell]) rfl ⟨ret_aggc (by rw [hr.out]) (by rw [hr.out] <;> rfl) (by rw [hr.out] <;> rfl), hb5⟩
end Go.Proofs.YtpndcbilnbihaabDoor
