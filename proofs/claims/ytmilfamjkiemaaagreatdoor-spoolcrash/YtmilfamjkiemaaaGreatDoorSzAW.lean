/-
  Layer 18: a file's name; held of the program.
-/
import Derived.Test.YtmilfamjkiemaaaGreatDoorSzAS
import Derived.Test.YtmilfamjkiemaaaGreatDoorSzAT
import Derived.Test.YtmilfamjkiemaaaGreatDoorSzAV
namespace Go.Proofs.YtmilfamjkiemaaaGreatDoor
open Go.RowKit
set_option maxHeartbeats 2000000 in
set_option maxRecDepth 100000 in
theorem fileOf_any (k : Int) (s : ByteArray) (g n : Int) (w : World) (hs : s.size ≤ maxLen) (hw : Ok w) :
    Calls Tryz.prog 36 #[.int .i64 k, .string s, .agg #[.int .i64 g, .int .i64 n]] w fun e w' => e = .returned (.string (Spl.fn k s g n)) ∧ Below w.heap.size w w' := by
  have b0 := Rg.al1 w (.cells #[.int .i64 g, .int .i64 n] 31)
  have H : Hid (∀ W, Below w.heap.size w W → Calls Tryz.prog 33 #[.int .i64 k, .string s, .agg #[.int .i64 g, .int .i64 n]] W fun e w' => e = .returned (.tuple #[.string (Spl.fn k s g n), .int .i64 (Nam.file k s.data.toList g n).2]) ∧ Below w.heap.size w w') := fun W hW => (file_any k s g n W hs (hw.below hW).tab).mono fun e w' ⟨h1, h2⟩ => ⟨h1, Rg.chain hW h2⟩
  generalize Spl.fn k s g n = F at *
  generalize (Nam.file k s.data.toList g n).2 = E at *
  clear hw hs
  go_enter Tryz.func36, Tryz.ntmps36
  go_wp2_with (go_at_call 33; refine (H.out _ b0).mono ?_; rintro e w' ⟨rfl, b'⟩)
  go_ret
  exact ⟨rfl, b'⟩
/-- what held answers -/
def HPost (o : Option Spl.Hd) (w : World) (e : Ending) (w' : World) : Prop := e = .returned (.tuple #[.agg (hc (o.getD Spl.Hd.zero)).toArray, .bool o.isSome]) ∧ Below w.heap.size w w'
set_option maxHeartbeats 2000000 in
set_option maxRecDepth 100000 in
theorem held_err (al : Option Addr) (c N : Nat) (k : Int) (s : ByteArray) (g n : Int) (w : World) (F T : ByteArray) (th : Bool) (jg jn jk : Int) (ju jf jt jc : ByteArray) (jz E : Int)
    (HF : Hid (∀ W, Below w.heap.size w W → Calls Tryz.prog 36 #[.int .i64 k, .string s, .agg #[.int .i64 g, .int .i64 n]] W fun e w' => e = .returned (.string F) ∧ Below W.heap.size W w'))
    (HR : Hid (∀ W, Below w.heap.size w W → Calls Tryz.prog 79 #[.slice al N c, .string F] W fun e w' => e = .returned (.tuple #[.string T, .bool th]) ∧ Below W.heap.size W w'))
    (HP : Hid (∀ W, Below w.heap.size w W → Calls Tryz.prog 80 #[.string T] W fun e w' => e = .returned (.tuple #[.agg #[.int .i64 jg, .int .i64 jn, .int .i64 jk, .string ju, .string jf, .string jt, .string jc, .int .i64 jz], .int .i64 E]) ∧ Below W.heap.size W w'))
    (hE : ¬ E = 0) :
    Calls Tryz.prog 43 #[.slice al N c, .int .i64 k, .string s, .agg #[.int .i64 g, .int .i64 n]] w fun e w' => HPost none w e w' := by
  obtain ⟨kI, kH, hb⟩ := Rg.box2 w [.int .i64 g, .int .i64 n] 31 [.string ⟨#[]⟩, .int .i64 0, .int .i64 0, .int .i64 0, .string ⟨#[]⟩, .string ⟨#[]⟩, .string ⟨#[]⟩, .string ⟨#[]⟩, .int .i64 0, .string ⟨#[]⟩] 42
  go_enter Tryz.func43, Tryz.ntmps43
  go_upto_region 1 with fail
  generalize World.alloc _ _ = w1 at *
  obtain ⟨I, hI⟩ : ∃ I, I = w.heap.size := ⟨_, rfl⟩
  obtain ⟨R, hR⟩ : ∃ R, R = w.heap.size + 1 := ⟨_, rfl⟩
  rw [← hR] at kH ⊢
  rw [← hI] at kI ⊢
  have hRw : Hid (w.heap.size ≤ R) := by show _ ≤ _; omega
  clear hI hR
  have i0 : w1.cell? ⟨I, 0, none⟩ = some (.int .i64 g) := kI.out.cell 0
  have i1 : w1.cell? ⟨I, 1, none⟩ = some (.int .i64 n) := kI.out.cell 1
  go_upto_region 2 with (first | (go_at_call 36; refine (HF.out _ hb.out).mono ?_; rintro e w2 ⟨rfl, b2⟩; have hb2 := Rg.hid (Rg.chain hb.out b2)) | (go_at_call 79; refine (HR.out _ hb2.out).mono ?_; rintro e w3 ⟨rfl, b3⟩))
  have kI3 := Rg.hid ((kI.out.below b2 kI.out.lt).below b3 (Nat.lt_of_lt_of_le kI.out.lt b2.size))
  have kH3 := Rg.hid ((kH.out.below b2 kH.out.lt).below b3 (Nat.lt_of_lt_of_le kH.out.lt b2.size))
  have hb3 := Rg.hid (Rg.chain hb2.out b3)
  clear kI kH hb b2 hb2 b3 i0 i1
  go_upto_region 3 with (go_at_call 80; refine (HP.out _ hb3.out).mono ?_; rintro e w4 ⟨rfl, b4⟩)
  have kJ : Hid (Rg.Bk w4.heap.size [.int .i64 jg, .int .i64 jn, .int .i64 jk, .string ju, .string jf, .string jt, .string jc, .int .i64 jz] 33 (w4.alloc (.cells #[.int .i64 jg, .int .i64 jn, .int .i64 jk, .string ju, .string jf, .string jt, .string jc, .int .i64 jz] 33))) := Rg.Bk.new rfl
  have bA := Rg.al1 w4 (.cells #[.int .i64 jg, .int .i64 jn, .int .i64 jk, .string ju, .string jf, .string jt, .string jc, .int .i64 jz] 33)
  generalize World.alloc _ _ = w5 at *
  have kI5 := Rg.hid ((kI3.out.below b4 kI3.out.lt).below bA (Nat.lt_of_lt_of_le kI3.out.lt b4.size))
  have kH5 := Rg.hid ((kH3.out.below b4 kH3.out.lt).below bA (Nat.lt_of_lt_of_le kH3.out.lt b4.size))
  have hb5 := Rg.hid (Rg.chain (Rg.chain hb3.out b4) bA)
  obtain ⟨J, hJ⟩ : ∃ J, J = w4.heap.size := ⟨_, rfl⟩
  rw [← hJ] at kJ ⊢
  clear hJ kI3 kH3 hb3 b4 bA
  have e0 : (E != 0) = true := by rw [bne_iff_ne]; exact hE
  obtain ⟨w6, st6, k6, o6⟩ := hst kH5.out rfl Spl.Hd.zero
  clear HF HR HP
  go_wp2_with (with_reducible refine Rg.isst (.tmp 8) (.tmp 38) 42 ?_; refine Rg.lst (.tmp 8) (.tmp 38) 42 rfl rfl st6 ?_)
  exact bodyPost_ret (v := .tuple #[.agg (hc (Spl.Hd.zero)).toArray, .bool false]) (Rg.res2 rfl rfl rfl (hld k6)) rfl ⟨rfl, hb5.out.trans (o6.bel hRw.out)⟩
set_option maxHeartbeats 2000000 in
set_option maxRecDepth 100000 in
theorem held_other (al : Option Addr) (c N : Nat) (k : Int) (s : ByteArray) (g n : Int) (w : World) (F T : ByteArray) (th : Bool) (jg jn jk : Int) (ju jf jt jc : ByteArray) (jz E : Int)
    (HF : Hid (∀ W, Below w.heap.size w W → Calls Tryz.prog 36 #[.int .i64 k, .string s, .agg #[.int .i64 g, .int .i64 n]] W fun e w' => e = .returned (.string F) ∧ Below W.heap.size W w'))
    (HR : Hid (∀ W, Below w.heap.size w W → Calls Tryz.prog 79 #[.slice al N c, .string F] W fun e w' => e = .returned (.tuple #[.string T, .bool th]) ∧ Below W.heap.size W w'))
    (HP : Hid (∀ W, Below w.heap.size w W → Calls Tryz.prog 80 #[.string T] W fun e w' => e = .returned (.tuple #[.agg #[.int .i64 jg, .int .i64 jn, .int .i64 jk, .string ju, .string jf, .string jt, .string jc, .int .i64 jz], .int .i64 E]) ∧ Below W.heap.size W w'))
    (hE : E = 0) (hid : ¬ (jg = g ∧ jn = n)) :
    Calls Tryz.prog 43 #[.slice al N c, .int .i64 k, .string s, .agg #[.int .i64 g, .int .i64 n]] w fun e w' => HPost none w e w' := by
  obtain ⟨kI, kH, hb⟩ := Rg.box2 w [.int .i64 g, .int .i64 n] 31 [.string ⟨#[]⟩, .int .i64 0, .int .i64 0, .int .i64 0, .string ⟨#[]⟩, .string ⟨#[]⟩, .string ⟨#[]⟩, .string ⟨#[]⟩, .int .i64 0, .string ⟨#[]⟩] 42
  go_enter Tryz.func43, Tryz.ntmps43
  go_upto_region 1 with fail
  generalize World.alloc _ _ = w1 at *
  obtain ⟨I, hI⟩ : ∃ I, I = w.heap.size := ⟨_, rfl⟩
  obtain ⟨R, hR⟩ : ∃ R, R = w.heap.size + 1 := ⟨_, rfl⟩
  rw [← hR] at kH ⊢
  rw [← hI] at kI ⊢
  have hRw : Hid (w.heap.size ≤ R) := by show _ ≤ _; omega
  clear hI hR
  have i0 : w1.cell? ⟨I, 0, none⟩ = some (.int .i64 g) := kI.out.cell 0
  have i1 : w1.cell? ⟨I, 1, none⟩ = some (.int .i64 n) := kI.out.cell 1
  go_upto_region 2 with (first | (go_at_call 36; refine (HF.out _ hb.out).mono ?_; rintro e w2 ⟨rfl, b2⟩; have hb2 := Rg.hid (Rg.chain hb.out b2)) | (go_at_call 79; refine (HR.out _ hb2.out).mono ?_; rintro e w3 ⟨rfl, b3⟩))
  have kI3 := Rg.hid ((kI.out.below b2 kI.out.lt).below b3 (Nat.lt_of_lt_of_le kI.out.lt b2.size))
  have kH3 := Rg.hid ((kH.out.below b2 kH.out.lt).below b3 (Nat.lt_of_lt_of_le kH.out.lt b2.size))
  have hb3 := Rg.hid (Rg.chain hb2.out b3)
  clear kI kH hb b2 hb2 b3 i0 i1
  go_upto_region 3 with (go_at_call 80; refine (HP.out _ hb3.out).mono ?_; rintro e w4 ⟨rfl, b4⟩)
  have kJ : Hid (Rg.Bk w4.heap.size [.int .i64 jg, .int .i64 jn, .int .i64 jk, .string ju, .string jf, .string jt, .string jc, .int .i64 jz] 33 (w4.alloc (.cells #[.int .i64 jg, .int .i64 jn, .int .i64 jk, .string ju, .string jf, .string jt, .string jc, .int .i64 jz] 33))) := Rg.Bk.new rfl
  have bA := Rg.al1 w4 (.cells #[.int .i64 jg, .int .i64 jn, .int .i64 jk, .string ju, .string jf, .string jt, .string jc, .int .i64 jz] 33)
  generalize World.alloc _ _ = w5 at *
  have kI5 := Rg.hid ((kI3.out.below b4 kI3.out.lt).below bA (Nat.lt_of_lt_of_le kI3.out.lt b4.size))
  have kH5 := Rg.hid ((kH3.out.below b4 kH3.out.lt).below bA (Nat.lt_of_lt_of_le kH3.out.lt b4.size))
  have hb5 := Rg.hid (Rg.chain (Rg.chain hb3.out b4) bA)
  obtain ⟨J, hJ⟩ : ∃ J, J = w4.heap.size := ⟨_, rfl⟩
  rw [← hJ] at kJ ⊢
  clear hJ kI3 kH3 hb3 b4 bA
  subst hE
  have i0 : w5.cell? ⟨I, 0, none⟩ = some (.int .i64 g) := kI5.out.cell 0
  have i1 : w5.cell? ⟨I, 1, none⟩ = some (.int .i64 n) := kI5.out.cell 1
  have j0 : w5.cell? ⟨J, 0, none⟩ = some (.int .i64 jg) := kJ.out.cell 0
  have j1 : w5.cell? ⟨J, 1, none⟩ = some (.int .i64 jn) := kJ.out.cell 1
  have j2 : w5.cell? ⟨J, 2, none⟩ = some (.int .i64 jk) := kJ.out.cell 2
  have j3 : w5.cell? ⟨J, 3, none⟩ = some (.string ju) := kJ.out.cell 3
  have j4 : w5.cell? ⟨J, 4, none⟩ = some (.string jf) := kJ.out.cell 4
  have j5 : w5.cell? ⟨J, 5, none⟩ = some (.string jt) := kJ.out.cell 5
  have j6 : w5.cell? ⟨J, 6, none⟩ = some (.string jc) := kJ.out.cell 6
  have j7 : w5.cell? ⟨J, 7, none⟩ = some (.int .i64 jz) := kJ.out.cell 7
  obtain ⟨w6, st6, k6, o6⟩ := hst kH5.out rfl Spl.Hd.zero
  clear HF HR HP
  go_wp2_with (with_reducible refine Rg.isst (.tmp 8) (.tmp 38) 42 ?_; refine Rg.lst (.tmp 8) (.tmp 38) 42 rfl rfl st6 ?_)
  all_goals exact bodyPost_ret (v := .tuple #[.agg (hc (Spl.Hd.zero)).toArray, .bool false]) (Rg.res2 rfl rfl rfl (hld k6)) rfl ⟨rfl, hb5.out.trans (o6.bel hRw.out)⟩
set_option maxHeartbeats 2000000 in
set_option maxRecDepth 100000 in
theorem held_bare (al : Option Addr) (c N : Nat) (k : Int) (s : ByteArray) (g n : Int) (w : World) (F T : ByteArray) (th : Bool) (jk : Int) (ju jf jt jc : ByteArray) (jz E : Int)
    (HF : Hid (∀ W, Below w.heap.size w W → Calls Tryz.prog 36 #[.int .i64 k, .string s, .agg #[.int .i64 g, .int .i64 n]] W fun e w' => e = .returned (.string F) ∧ Below W.heap.size W w'))
    (HR : Hid (∀ W, Below w.heap.size w W → Calls Tryz.prog 79 #[.slice al N c, .string F] W fun e w' => e = .returned (.tuple #[.string T, .bool th]) ∧ Below W.heap.size W w'))
    (HP : Hid (∀ W, Below w.heap.size w W → Calls Tryz.prog 80 #[.string T] W fun e w' => e = .returned (.tuple #[.agg #[.int .i64 g, .int .i64 n, .int .i64 jk, .string ju, .string jf, .string jt, .string jc, .int .i64 jz], .int .i64 E]) ∧ Below W.heap.size W w'))
    (hE : E = 0) (hk : k = 69 ∨ jk = 3) :
    Calls Tryz.prog 43 #[.slice al N c, .int .i64 k, .string s, .agg #[.int .i64 g, .int .i64 n]] w fun e w' => HPost (some ⟨s, ⟨g, n, jk, ju, jf, jt, jc, jz⟩, ⟨#[]⟩⟩) w e w' := by
  obtain ⟨kI, kH, hb⟩ := Rg.box2 w [.int .i64 g, .int .i64 n] 31 [.string ⟨#[]⟩, .int .i64 0, .int .i64 0, .int .i64 0, .string ⟨#[]⟩, .string ⟨#[]⟩, .string ⟨#[]⟩, .string ⟨#[]⟩, .int .i64 0, .string ⟨#[]⟩] 42
  go_enter Tryz.func43, Tryz.ntmps43
  go_upto_region 1 with fail
  generalize World.alloc _ _ = w1 at *
  obtain ⟨I, hI⟩ : ∃ I, I = w.heap.size := ⟨_, rfl⟩
  obtain ⟨R, hR⟩ : ∃ R, R = w.heap.size + 1 := ⟨_, rfl⟩
  rw [← hR] at kH ⊢
  rw [← hI] at kI ⊢
  have hRw : Hid (w.heap.size ≤ R) := by show _ ≤ _; omega
  clear hI hR
  have i0 : w1.cell? ⟨I, 0, none⟩ = some (.int .i64 g) := kI.out.cell 0
  have i1 : w1.cell? ⟨I, 1, none⟩ = some (.int .i64 n) := kI.out.cell 1
  go_upto_region 2 with (first | (go_at_call 36; refine (HF.out _ hb.out).mono ?_; rintro e w2 ⟨rfl, b2⟩; have hb2 := Rg.hid (Rg.chain hb.out b2)) | (go_at_call 79; refine (HR.out _ hb2.out).mono ?_; rintro e w3 ⟨rfl, b3⟩))
  have kI3 := Rg.hid ((kI.out.below b2 kI.out.lt).below b3 (Nat.lt_of_lt_of_le kI.out.lt b2.size))
  have kH3 := Rg.hid ((kH.out.below b2 kH.out.lt).below b3 (Nat.lt_of_lt_of_le kH.out.lt b2.size))
  have hb3 := Rg.hid (Rg.chain hb2.out b3)
  clear kI kH hb b2 hb2 b3 i0 i1
  go_upto_region 3 with (go_at_call 80; refine (HP.out _ hb3.out).mono ?_; rintro e w4 ⟨rfl, b4⟩)
  have kJ : Hid (Rg.Bk w4.heap.size [.int .i64 g, .int .i64 n, .int .i64 jk, .string ju, .string jf, .string jt, .string jc, .int .i64 jz] 33 (w4.alloc (.cells #[.int .i64 g, .int .i64 n, .int .i64 jk, .string ju, .string jf, .string jt, .string jc, .int .i64 jz] 33))) := Rg.Bk.new rfl
  have bA := Rg.al1 w4 (.cells #[.int .i64 g, .int .i64 n, .int .i64 jk, .string ju, .string jf, .string jt, .string jc, .int .i64 jz] 33)
  generalize World.alloc _ _ = w5 at *
  have kI5 := Rg.hid ((kI3.out.below b4 kI3.out.lt).below bA (Nat.lt_of_lt_of_le kI3.out.lt b4.size))
  have kH5 := Rg.hid ((kH3.out.below b4 kH3.out.lt).below bA (Nat.lt_of_lt_of_le kH3.out.lt b4.size))
  have hb5 := Rg.hid (Rg.chain (Rg.chain hb3.out b4) bA)
  obtain ⟨J, hJ⟩ : ∃ J, J = w4.heap.size := ⟨_, rfl⟩
  rw [← hJ] at kJ ⊢
  clear hJ kI3 kH3 hb3 b4 bA
  subst hE
  have i0 : w5.cell? ⟨I, 0, none⟩ = some (.int .i64 g) := kI5.out.cell 0
  have i1 : w5.cell? ⟨I, 1, none⟩ = some (.int .i64 n) := kI5.out.cell 1
  have j0 : w5.cell? ⟨J, 0, none⟩ = some (.int .i64 g) := kJ.out.cell 0
  have j1 : w5.cell? ⟨J, 1, none⟩ = some (.int .i64 n) := kJ.out.cell 1
  have j2 : w5.cell? ⟨J, 2, none⟩ = some (.int .i64 jk) := kJ.out.cell 2
  have j3 : w5.cell? ⟨J, 3, none⟩ = some (.string ju) := kJ.out.cell 3
  have j4 : w5.cell? ⟨J, 4, none⟩ = some (.string jf) := kJ.out.cell 4
  have j5 : w5.cell? ⟨J, 5, none⟩ = some (.string jt) := kJ.out.cell 5
  have j6 : w5.cell? ⟨J, 6, none⟩ = some (.string jc) := kJ.out.cell 6
  have j7 : w5.cell? ⟨J, 7, none⟩ = some (.int .i64 jz) := kJ.out.cell 7
  obtain ⟨w6, st6, k6, o6⟩ := hst kH5.out rfl ⟨s, ⟨g, n, jk, ju, jf, jt, jc, jz⟩, ⟨#[]⟩⟩
  clear HF HR HP
  by_cases h69 : k = 69
  · subst h69
    go_wp2_with (with_reducible refine Rg.isst (.tmp 8) (.tmp 48) 42 ?_; refine Rg.lst (.tmp 8) (.tmp 48) 42 rfl rfl st6 ?_)
    all_goals exact bodyPost_ret (v := .tuple #[.agg (hc ((⟨s, ⟨g, n, jk, ju, jf, jt, jc, jz⟩, ⟨#[]⟩⟩ : Spl.Hd))).toArray, .bool true]) (Rg.res2 rfl rfl rfl (hld k6)) rfl ⟨rfl, hb5.out.trans (o6.bel hRw.out)⟩
  · have h3 : jk = 3 := by omega
    subst h3
    have e69 : (k == 69) = false := by simpa using h69
    go_wp2_with (with_reducible refine Rg.isst (.tmp 8) (.tmp 48) 42 ?_; refine Rg.lst (.tmp 8) (.tmp 48) 42 rfl rfl st6 ?_)
    all_goals exact bodyPost_ret (v := .tuple #[.agg (hc ((⟨s, ⟨g, n, 3, ju, jf, jt, jc, jz⟩, ⟨#[]⟩⟩ : Spl.Hd))).toArray, .bool true]) (Rg.res2 rfl rfl rfl (hld k6)) rfl ⟨rfl, hb5.out.trans (o6.bel hRw.out)⟩
set_option maxHeartbeats 2000000 in
set_option maxRecDepth 100000 in
theorem held_gone (al : Option Addr) (c N : Nat) (k : Int) (s : ByteArray) (g n : Int) (w : World) (F T : ByteArray) (th : Bool) (jk : Int) (ju jf jt jc : ByteArray) (jz E : Int)
    (HF : Hid (∀ W, Below w.heap.size w W → Calls Tryz.prog 36 #[.int .i64 k, .string s, .agg #[.int .i64 g, .int .i64 n]] W fun e w' => e = .returned (.string F) ∧ Below W.heap.size W w'))
    (HR : Hid (∀ W, Below w.heap.size w W → Calls Tryz.prog 79 #[.slice al N c, .string F] W fun e w' => e = .returned (.tuple #[.string T, .bool th]) ∧ Below W.heap.size W w'))
    (HP : Hid (∀ W, Below w.heap.size w W → Calls Tryz.prog 80 #[.string T] W fun e w' => e = .returned (.tuple #[.agg #[.int .i64 g, .int .i64 n, .int .i64 jk, .string ju, .string jf, .string jt, .string jc, .int .i64 jz], .int .i64 E]) ∧ Below W.heap.size W w'))
    (F8 X : ByteArray) (thX : Bool)
    (HF8 : Hid (∀ W, Below w.heap.size w W → Calls Tryz.prog 36 #[.int .i64 68, .string s, .agg #[.int .i64 g, .int .i64 n]] W fun e w' => e = .returned (.string F8) ∧ Below W.heap.size W w'))
    (HR8 : Hid (∀ W, Below w.heap.size w W → Calls Tryz.prog 79 #[.slice al N c, .string F8] W fun e w' => e = .returned (.tuple #[.string X, .bool thX]) ∧ Below W.heap.size W w'))
    (hE : E = 0) (h69 : ¬ k = 69) (h3 : ¬ jk = 3) (ht : thX = false) :
    Calls Tryz.prog 43 #[.slice al N c, .int .i64 k, .string s, .agg #[.int .i64 g, .int .i64 n]] w fun e w' => HPost none w e w' := by
  obtain ⟨kI, kH, hb⟩ := Rg.box2 w [.int .i64 g, .int .i64 n] 31 [.string ⟨#[]⟩, .int .i64 0, .int .i64 0, .int .i64 0, .string ⟨#[]⟩, .string ⟨#[]⟩, .string ⟨#[]⟩, .string ⟨#[]⟩, .int .i64 0, .string ⟨#[]⟩] 42
  go_enter Tryz.func43, Tryz.ntmps43
  go_upto_region 1 with fail
  generalize World.alloc _ _ = w1 at *
  obtain ⟨I, hI⟩ : ∃ I, I = w.heap.size := ⟨_, rfl⟩
  obtain ⟨R, hR⟩ : ∃ R, R = w.heap.size + 1 := ⟨_, rfl⟩
  rw [← hR] at kH ⊢
  rw [← hI] at kI ⊢
  have hRw : Hid (w.heap.size ≤ R) := by show _ ≤ _; omega
  clear hI hR
  have i0 : w1.cell? ⟨I, 0, none⟩ = some (.int .i64 g) := kI.out.cell 0
  have i1 : w1.cell? ⟨I, 1, none⟩ = some (.int .i64 n) := kI.out.cell 1
  go_upto_region 2 with (first | (go_at_call 36; refine (HF.out _ hb.out).mono ?_; rintro e w2 ⟨rfl, b2⟩; have hb2 := Rg.hid (Rg.chain hb.out b2)) | (go_at_call 79; refine (HR.out _ hb2.out).mono ?_; rintro e w3 ⟨rfl, b3⟩))
  have kI3 := Rg.hid ((kI.out.below b2 kI.out.lt).below b3 (Nat.lt_of_lt_of_le kI.out.lt b2.size))
  have kH3 := Rg.hid ((kH.out.below b2 kH.out.lt).below b3 (Nat.lt_of_lt_of_le kH.out.lt b2.size))
  have hb3 := Rg.hid (Rg.chain hb2.out b3)
  clear kI kH hb b2 hb2 b3 i0 i1
  go_upto_region 3 with (go_at_call 80; refine (HP.out _ hb3.out).mono ?_; rintro e w4 ⟨rfl, b4⟩)
  have kJ : Hid (Rg.Bk w4.heap.size [.int .i64 g, .int .i64 n, .int .i64 jk, .string ju, .string jf, .string jt, .string jc, .int .i64 jz] 33 (w4.alloc (.cells #[.int .i64 g, .int .i64 n, .int .i64 jk, .string ju, .string jf, .string jt, .string jc, .int .i64 jz] 33))) := Rg.Bk.new rfl
  have bA := Rg.al1 w4 (.cells #[.int .i64 g, .int .i64 n, .int .i64 jk, .string ju, .string jf, .string jt, .string jc, .int .i64 jz] 33)
  generalize World.alloc _ _ = w5 at *
  have kI5 := Rg.hid ((kI3.out.below b4 kI3.out.lt).below bA (Nat.lt_of_lt_of_le kI3.out.lt b4.size))
  have kH5 := Rg.hid ((kH3.out.below b4 kH3.out.lt).below bA (Nat.lt_of_lt_of_le kH3.out.lt b4.size))
  have hb5 := Rg.hid (Rg.chain (Rg.chain hb3.out b4) bA)
  obtain ⟨J, hJ⟩ : ∃ J, J = w4.heap.size := ⟨_, rfl⟩
  rw [← hJ] at kJ ⊢
  clear hJ kI3 kH3 hb3 b4 bA
  subst hE
  have i0 : w5.cell? ⟨I, 0, none⟩ = some (.int .i64 g) := kI5.out.cell 0
  have i1 : w5.cell? ⟨I, 1, none⟩ = some (.int .i64 n) := kI5.out.cell 1
  have j0 : w5.cell? ⟨J, 0, none⟩ = some (.int .i64 g) := kJ.out.cell 0
  have j1 : w5.cell? ⟨J, 1, none⟩ = some (.int .i64 n) := kJ.out.cell 1
  have j2 : w5.cell? ⟨J, 2, none⟩ = some (.int .i64 jk) := kJ.out.cell 2
  have j3 : w5.cell? ⟨J, 3, none⟩ = some (.string ju) := kJ.out.cell 3
  have j4 : w5.cell? ⟨J, 4, none⟩ = some (.string jf) := kJ.out.cell 4
  have j5 : w5.cell? ⟨J, 5, none⟩ = some (.string jt) := kJ.out.cell 5
  have j6 : w5.cell? ⟨J, 6, none⟩ = some (.string jc) := kJ.out.cell 6
  have j7 : w5.cell? ⟨J, 7, none⟩ = some (.int .i64 jz) := kJ.out.cell 7
  have e69 : (k == 69) = false := by simpa using h69
  have e3 : (jk == 3) = false := by simpa using h3
  go_upto_region 7 with fail
  go_upto_region 8 with (first | (go_at_call 36; refine (HF8.out _ hb5.out).mono ?_; rintro e w6 ⟨rfl, b6⟩; have hb6 := Rg.hid (Rg.chain hb5.out b6)) | (go_at_call 79; refine (HR8.out _ hb6.out).mono ?_; rintro e w7 ⟨rfl, b7⟩))
  have kI7 := Rg.hid ((kI5.out.below b6 kI5.out.lt).below b7 (Nat.lt_of_lt_of_le kI5.out.lt b6.size))
  have kH7 := Rg.hid ((kH5.out.below b6 kH5.out.lt).below b7 (Nat.lt_of_lt_of_le kH5.out.lt b6.size))
  have kJ7 := Rg.hid ((kJ.out.below b6 kJ.out.lt).below b7 (Nat.lt_of_lt_of_le kJ.out.lt b6.size))
  have hb7 := Rg.hid (Rg.chain hb6.out b7)
  clear kI5 kH5 kJ hb5 b6 hb6 b7 i0 i1 j0 j1 j2 j3 j4 j5 j6 j7 HF HR HP HF8 HR8
  subst ht
  obtain ⟨w8, st6, k6, o6⟩ := hst kH7.out rfl Spl.Hd.zero
  go_wp2_with (with_reducible refine Rg.isst (.tmp 8) (.tmp 66) 42 ?_; refine Rg.lst (.tmp 8) (.tmp 66) 42 rfl rfl st6 ?_)
  all_goals exact bodyPost_ret (v := .tuple #[.agg (hc (Spl.Hd.zero)).toArray, .bool false]) (Rg.res2 rfl rfl rfl (hld k6)) rfl ⟨rfl, hb7.out.trans (o6.bel hRw.out)⟩
set_option maxHeartbeats 2000000 in
set_option maxRecDepth 100000 in
theorem held_size (al : Option Addr) (c N : Nat) (k : Int) (s : ByteArray) (g n : Int) (w : World) (F T : ByteArray) (th : Bool) (jk : Int) (ju jf jt jc : ByteArray) (jz E : Int)
    (HF : Hid (∀ W, Below w.heap.size w W → Calls Tryz.prog 36 #[.int .i64 k, .string s, .agg #[.int .i64 g, .int .i64 n]] W fun e w' => e = .returned (.string F) ∧ Below W.heap.size W w'))
    (HR : Hid (∀ W, Below w.heap.size w W → Calls Tryz.prog 79 #[.slice al N c, .string F] W fun e w' => e = .returned (.tuple #[.string T, .bool th]) ∧ Below W.heap.size W w'))
    (HP : Hid (∀ W, Below w.heap.size w W → Calls Tryz.prog 80 #[.string T] W fun e w' => e = .returned (.tuple #[.agg #[.int .i64 g, .int .i64 n, .int .i64 jk, .string ju, .string jf, .string jt, .string jc, .int .i64 jz], .int .i64 E]) ∧ Below W.heap.size W w'))
    (F8 X : ByteArray) (thX : Bool)
    (HF8 : Hid (∀ W, Below w.heap.size w W → Calls Tryz.prog 36 #[.int .i64 68, .string s, .agg #[.int .i64 g, .int .i64 n]] W fun e w' => e = .returned (.string F8) ∧ Below W.heap.size W w'))
    (HR8 : Hid (∀ W, Below w.heap.size w W → Calls Tryz.prog 79 #[.slice al N c, .string F8] W fun e w' => e = .returned (.tuple #[.string X, .bool thX]) ∧ Below W.heap.size W w'))
    (hE : E = 0) (h69 : ¬ k = 69) (h3 : ¬ jk = 3) (ht : thX = true) (hz : ¬ (X.size : Int) = jz) :
    Calls Tryz.prog 43 #[.slice al N c, .int .i64 k, .string s, .agg #[.int .i64 g, .int .i64 n]] w fun e w' => HPost none w e w' := by
  obtain ⟨kI, kH, hb⟩ := Rg.box2 w [.int .i64 g, .int .i64 n] 31 [.string ⟨#[]⟩, .int .i64 0, .int .i64 0, .int .i64 0, .string ⟨#[]⟩, .string ⟨#[]⟩, .string ⟨#[]⟩, .string ⟨#[]⟩, .int .i64 0, .string ⟨#[]⟩] 42
  go_enter Tryz.func43, Tryz.ntmps43
  go_upto_region 1 with fail
  generalize World.alloc _ _ = w1 at *
  obtain ⟨I, hI⟩ : ∃ I, I = w.heap.size := ⟨_, rfl⟩
  obtain ⟨R, hR⟩ : ∃ R, R = w.heap.size + 1 := ⟨_, rfl⟩
  rw [← hR] at kH ⊢
  rw [← hI] at kI ⊢
  have hRw : Hid (w.heap.size ≤ R) := by show _ ≤ _; omega
  clear hI hR
  have i0 : w1.cell? ⟨I, 0, none⟩ = some (.int .i64 g) := kI.out.cell 0
  have i1 : w1.cell? ⟨I, 1, none⟩ = some (.int .i64 n) := kI.out.cell 1
  go_upto_region 2 with (first | (go_at_call 36; refine (HF.out _ hb.out).mono ?_; rintro e w2 ⟨rfl, b2⟩; have hb2 := Rg.hid (Rg.chain hb.out b2)) | (go_at_call 79; refine (HR.out _ hb2.out).mono ?_; rintro e w3 ⟨rfl, b3⟩))
  have kI3 := Rg.hid ((kI.out.below b2 kI.out.lt).below b3 (Nat.lt_of_lt_of_le kI.out.lt b2.size))
  have kH3 := Rg.hid ((kH.out.below b2 kH.out.lt).below b3 (Nat.lt_of_lt_of_le kH.out.lt b2.size))
  have hb3 := Rg.hid (Rg.chain hb2.out b3)
  clear kI kH hb b2 hb2 b3 i0 i1
  go_upto_region 3 with (go_at_call 80; refine (HP.out _ hb3.out).mono ?_; rintro e w4 ⟨rfl, b4⟩)
  have kJ : Hid (Rg.Bk w4.heap.size [.int .i64 g, .int .i64 n, .int .i64 jk, .string ju, .string jf, .string jt, .string jc, .int .i64 jz] 33 (w4.alloc (.cells #[.int .i64 g, .int .i64 n, .int .i64 jk, .string ju, .string jf, .string jt, .string jc, .int .i64 jz] 33))) := Rg.Bk.new rfl
  have bA := Rg.al1 w4 (.cells #[.int .i64 g, .int .i64 n, .int .i64 jk, .string ju, .string jf, .string jt, .string jc, .int .i64 jz] 33)
  generalize World.alloc _ _ = w5 at *
  have kI5 := Rg.hid ((kI3.out.below b4 kI3.out.lt).below bA (Nat.lt_of_lt_of_le kI3.out.lt b4.size))
  have kH5 := Rg.hid ((kH3.out.below b4 kH3.out.lt).below bA (Nat.lt_of_lt_of_le kH3.out.lt b4.size))
  have hb5 := Rg.hid (Rg.chain (Rg.chain hb3.out b4) bA)
  obtain ⟨J, hJ⟩ : ∃ J, J = w4.heap.size := ⟨_, rfl⟩
  rw [← hJ] at kJ ⊢
  clear hJ kI3 kH3 hb3 b4 bA
  subst hE
  have i0 : w5.cell? ⟨I, 0, none⟩ = some (.int .i64 g) := kI5.out.cell 0
  have i1 : w5.cell? ⟨I, 1, none⟩ = some (.int .i64 n) := kI5.out.cell 1
  have j0 : w5.cell? ⟨J, 0, none⟩ = some (.int .i64 g) := kJ.out.cell 0
  have j1 : w5.cell? ⟨J, 1, none⟩ = some (.int .i64 n) := kJ.out.cell 1
  have j2 : w5.cell? ⟨J, 2, none⟩ = some (.int .i64 jk) := kJ.out.cell 2
  have j3 : w5.cell? ⟨J, 3, none⟩ = some (.string ju) := kJ.out.cell 3
  have j4 : w5.cell? ⟨J, 4, none⟩ = some (.string jf) := kJ.out.cell 4
  have j5 : w5.cell? ⟨J, 5, none⟩ = some (.string jt) := kJ.out.cell 5
  have j6 : w5.cell? ⟨J, 6, none⟩ = some (.string jc) := kJ.out.cell 6
  have j7 : w5.cell? ⟨J, 7, none⟩ = some (.int .i64 jz) := kJ.out.cell 7
  have e69 : (k == 69) = false := by simpa using h69
  have e3 : (jk == 3) = false := by simpa using h3
  go_upto_region 7 with fail
  go_upto_region 8 with (first | (go_at_call 36; refine (HF8.out _ hb5.out).mono ?_; rintro e w6 ⟨rfl, b6⟩; have hb6 := Rg.hid (Rg.chain hb5.out b6)) | (go_at_call 79; refine (HR8.out _ hb6.out).mono ?_; rintro e w7 ⟨rfl, b7⟩))
  have kI7 := Rg.hid ((kI5.out.below b6 kI5.out.lt).below b7 (Nat.lt_of_lt_of_le kI5.out.lt b6.size))
  have kH7 := Rg.hid ((kH5.out.below b6 kH5.out.lt).below b7 (Nat.lt_of_lt_of_le kH5.out.lt b6.size))
  have kJ7 := Rg.hid ((kJ.out.below b6 kJ.out.lt).below b7 (Nat.lt_of_lt_of_le kJ.out.lt b6.size))
  have hb7 := Rg.hid (Rg.chain hb6.out b7)
  clear kI5 kH5 kJ hb5 b6 hb6 b7 i0 i1 j0 j1 j2 j3 j4 j5 j6 j7 HF HR HP HF8 HR8
  subst ht
  have j0 : w7.cell? ⟨J, 0, none⟩ = some (.int .i64 g) := kJ7.out.cell 0
  have j1 : w7.cell? ⟨J, 1, none⟩ = some (.int .i64 n) := kJ7.out.cell 1
  have j2 : w7.cell? ⟨J, 2, none⟩ = some (.int .i64 jk) := kJ7.out.cell 2
  have j3 : w7.cell? ⟨J, 3, none⟩ = some (.string ju) := kJ7.out.cell 3
  have j4 : w7.cell? ⟨J, 4, none⟩ = some (.string jf) := kJ7.out.cell 4
  have j5 : w7.cell? ⟨J, 5, none⟩ = some (.string jt) := kJ7.out.cell 5
  have j6 : w7.cell? ⟨J, 6, none⟩ = some (.string jc) := kJ7.out.cell 6
  have j7 : w7.cell? ⟨J, 7, none⟩ = some (.int .i64 jz) := kJ7.out.cell 7
  have ez : ((X.size : Int) != jz) = true := by rw [bne_iff_ne]; exact hz
  obtain ⟨w8, st6, k6, o6⟩ := hst kH7.out rfl Spl.Hd.zero
  go_wp2_with (with_reducible refine Rg.isst (.tmp 8) (.tmp 66) 42 ?_; refine Rg.lst (.tmp 8) (.tmp 66) 42 rfl rfl st6 ?_)
  all_goals exact bodyPost_ret (v := .tuple #[.agg (hc (Spl.Hd.zero)).toArray, .bool false]) (Rg.res2 rfl rfl rfl (hld k6)) rfl ⟨rfl, hb7.out.trans (o6.bel hRw.out)⟩
set_option maxHeartbeats 2000000 in
set_option maxRecDepth 100000 in
theorem held_yes (al : Option Addr) (c N : Nat) (k : Int) (s : ByteArray) (g n : Int) (w : World) (F T : ByteArray) (th : Bool) (jk : Int) (ju jf jt jc : ByteArray) (jz E : Int)
    (HF : Hid (∀ W, Below w.heap.size w W → Calls Tryz.prog 36 #[.int .i64 k, .string s, .agg #[.int .i64 g, .int .i64 n]] W fun e w' => e = .returned (.string F) ∧ Below W.heap.size W w'))
    (HR : Hid (∀ W, Below w.heap.size w W → Calls Tryz.prog 79 #[.slice al N c, .string F] W fun e w' => e = .returned (.tuple #[.string T, .bool th]) ∧ Below W.heap.size W w'))
    (HP : Hid (∀ W, Below w.heap.size w W → Calls Tryz.prog 80 #[.string T] W fun e w' => e = .returned (.tuple #[.agg #[.int .i64 g, .int .i64 n, .int .i64 jk, .string ju, .string jf, .string jt, .string jc, .int .i64 jz], .int .i64 E]) ∧ Below W.heap.size W w'))
    (F8 X : ByteArray) (thX : Bool)
    (HF8 : Hid (∀ W, Below w.heap.size w W → Calls Tryz.prog 36 #[.int .i64 68, .string s, .agg #[.int .i64 g, .int .i64 n]] W fun e w' => e = .returned (.string F8) ∧ Below W.heap.size W w'))
    (HR8 : Hid (∀ W, Below w.heap.size w W → Calls Tryz.prog 79 #[.slice al N c, .string F8] W fun e w' => e = .returned (.tuple #[.string X, .bool thX]) ∧ Below W.heap.size W w'))
    (hE : E = 0) (h69 : ¬ k = 69) (h3 : ¬ jk = 3) (ht : thX = true) (hz : (X.size : Int) = jz) :
    Calls Tryz.prog 43 #[.slice al N c, .int .i64 k, .string s, .agg #[.int .i64 g, .int .i64 n]] w fun e w' => HPost (some ⟨s, ⟨g, n, jk, ju, jf, jt, jc, jz⟩, X⟩) w e w' := by
  obtain ⟨kI, kH, hb⟩ := Rg.box2 w [.int .i64 g, .int .i64 n] 31 [.string ⟨#[]⟩, .int .i64 0, .int .i64 0, .int .i64 0, .string ⟨#[]⟩, .string ⟨#[]⟩, .string ⟨#[]⟩, .string ⟨#[]⟩, .int .i64 0, .string ⟨#[]⟩] 42
  go_enter Tryz.func43, Tryz.ntmps43
  go_upto_region 1 with fail
  generalize World.alloc _ _ = w1 at *
  obtain ⟨I, hI⟩ : ∃ I, I = w.heap.size := ⟨_, rfl⟩
  obtain ⟨R, hR⟩ : ∃ R, R = w.heap.size + 1 := ⟨_, rfl⟩
  rw [← hR] at kH ⊢
  rw [← hI] at kI ⊢
  have hRw : Hid (w.heap.size ≤ R) := by show _ ≤ _; omega
  clear hI hR
  have i0 : w1.cell? ⟨I, 0, none⟩ = some (.int .i64 g) := kI.out.cell 0
  have i1 : w1.cell? ⟨I, 1, none⟩ = some (.int .i64 n) := kI.out.cell 1
  go_upto_region 2 with (first | (go_at_call 36; refine (HF.out _ hb.out).mono ?_; rintro e w2 ⟨rfl, b2⟩; have hb2 := Rg.hid (Rg.chain hb.out b2)) | (go_at_call 79; refine (HR.out _ hb2.out).mono ?_; rintro e w3 ⟨rfl, b3⟩))
  have kI3 := Rg.hid ((kI.out.below b2 kI.out.lt).below b3 (Nat.lt_of_lt_of_le kI.out.lt b2.size))
  have kH3 := Rg.hid ((kH.out.below b2 kH.out.lt).below b3 (Nat.lt_of_lt_of_le kH.out.lt b2.size))
  have hb3 := Rg.hid (Rg.chain hb2.out b3)
  clear kI kH hb b2 hb2 b3 i0 i1
  go_upto_region 3 with (go_at_call 80; refine (HP.out _ hb3.out).mono ?_; rintro e w4 ⟨rfl, b4⟩)
  have kJ : Hid (Rg.Bk w4.heap.size [.int .i64 g, .int .i64 n, .int .i64 jk, .string ju, .string jf, .string jt, .string jc, .int .i64 jz] 33 (w4.alloc (.cells #[.int .i64 g, .int .i64 n, .int .i64 jk, .string ju, .string jf, .string jt, .string jc, .int .i64 jz] 33))) := Rg.Bk.new rfl
  have bA := Rg.al1 w4 (.cells #[.int .i64 g, .int .i64 n, .int .i64 jk, .string ju, .string jf, .string jt, .string jc, .int .i64 jz] 33)
  generalize World.alloc _ _ = w5 at *
  have kI5 := Rg.hid ((kI3.out.below b4 kI3.out.lt).below bA (Nat.lt_of_lt_of_le kI3.out.lt b4.size))
  have kH5 := Rg.hid ((kH3.out.below b4 kH3.out.lt).below bA (Nat.lt_of_lt_of_le kH3.out.lt b4.size))
  have hb5 := Rg.hid (Rg.chain (Rg.chain hb3.out b4) bA)
  obtain ⟨J, hJ⟩ : ∃ J, J = w4.heap.size := ⟨_, rfl⟩
  rw [← hJ] at kJ ⊢
  clear hJ kI3 kH3 hb3 b4 bA
  subst hE
  have i0 : w5.cell? ⟨I, 0, none⟩ = some (.int .i64 g) := kI5.out.cell 0
  have i1 : w5.cell? ⟨I, 1, none⟩ = some (.int .i64 n) := kI5.out.cell 1
  have j0 : w5.cell? ⟨J, 0, none⟩ = some (.int .i64 g) := kJ.out.cell 0
  have j1 : w5.cell? ⟨J, 1, none⟩ = some (.int .i64 n) := kJ.out.cell 1
  have j2 : w5.cell? ⟨J, 2, none⟩ = some (.int .i64 jk) := kJ.out.cell 2
  have j3 : w5.cell? ⟨J, 3, none⟩ = some (.string ju) := kJ.out.cell 3
  have j4 : w5.cell? ⟨J, 4, none⟩ = some (.string jf) := kJ.out.cell 4
  have j5 : w5.cell? ⟨J, 5, none⟩ = some (.string jt) := kJ.out.cell 5
  have j6 : w5.cell? ⟨J, 6, none⟩ = some (.string jc) := kJ.out.cell 6
  have j7 : w5.cell? ⟨J, 7, none⟩ = some (.int .i64 jz) := kJ.out.cell 7
  have e69 : (k == 69) = false := by simpa using h69
  have e3 : (jk == 3) = false := by simpa using h3
  go_upto_region 7 with fail
  go_upto_region 8 with (first | (go_at_call 36; refine (HF8.out _ hb5.out).mono ?_; rintro e w6 ⟨rfl, b6⟩; have hb6 := Rg.hid (Rg.chain hb5.out b6)) | (go_at_call 79; refine (HR8.out _ hb6.out).mono ?_; rintro e w7 ⟨rfl, b7⟩))
  have kI7 := Rg.hid ((kI5.out.below b6 kI5.out.lt).below b7 (Nat.lt_of_lt_of_le kI5.out.lt b6.size))
  have kH7 := Rg.hid ((kH5.out.below b6 kH5.out.lt).below b7 (Nat.lt_of_lt_of_le kH5.out.lt b6.size))
  have kJ7 := Rg.hid ((kJ.out.below b6 kJ.out.lt).below b7 (Nat.lt_of_lt_of_le kJ.out.lt b6.size))
  have hb7 := Rg.hid (Rg.chain hb6.out b7)
  clear kI5 kH5 kJ hb5 b6 hb6 b7 i0 i1 j0 j1 j2 j3 j4 j5 j6 j7 HF HR HP HF8 HR8
  subst ht
  have ez : ((X.size : Int) != jz) = false := by simp [hz]
  obtain ⟨Z, hZ⟩ : ∃ Z : Int, Z = jz := ⟨_, rfl⟩
  have j0 : w7.cell? ⟨J, 0, none⟩ = some (.int .i64 g) := kJ7.out.cell 0
  have j1 : w7.cell? ⟨J, 1, none⟩ = some (.int .i64 n) := kJ7.out.cell 1
  have j2 : w7.cell? ⟨J, 2, none⟩ = some (.int .i64 jk) := kJ7.out.cell 2
  have j3 : w7.cell? ⟨J, 3, none⟩ = some (.string ju) := kJ7.out.cell 3
  have j4 : w7.cell? ⟨J, 4, none⟩ = some (.string jf) := kJ7.out.cell 4
  have j5 : w7.cell? ⟨J, 5, none⟩ = some (.string jt) := kJ7.out.cell 5
  have j6 : w7.cell? ⟨J, 6, none⟩ = some (.string jc) := kJ7.out.cell 6
  have j7 : w7.cell? ⟨J, 7, none⟩ = some (.int .i64 jz) := kJ7.out.cell 7
  obtain ⟨w8, st6, k6, o6⟩ := hst kH7.out rfl ⟨s, ⟨g, n, jk, ju, jf, jt, jc, jz⟩, X⟩
  clear hZ Z hz
  go_wp2_with (with_reducible refine Rg.isst (.tmp 8) (.tmp 70) 42 ?_; refine Rg.lst (.tmp 8) (.tmp 70) 42 rfl rfl st6 ?_)
  all_goals exact bodyPost_ret (v := .tuple #[.agg (hc ((⟨s, ⟨g, n, jk, ju, jf, jt, jc, jz⟩, X⟩ : Spl.Hd))).toArray, .bool true]) (Rg.res2 rfl rfl rfl (hld k6)) rfl ⟨rfl, hb7.out.trans (o6.bel hRw.out)⟩
end Go.Proofs.YtmilfamjkiemaaaGreatDoor
