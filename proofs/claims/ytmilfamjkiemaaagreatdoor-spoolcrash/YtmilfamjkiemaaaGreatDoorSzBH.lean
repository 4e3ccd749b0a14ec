/-
  Layer 18: mayQueue, Queue of the program.
-/
import Derived.Test.YtmilfamjkiemaaaGreatDoorSzBE
import Derived.Test.YtmilfamjkiemaaaGreatDoorSzBG
namespace Go.Proofs.YtmilfamjkiemaaaGreatDoor
open Go.RowKit
theorem jld2 {J : Nat} {j : Job.Jb} {ty : TypeId} {W : World} (k : Rg.Bk J [.int .i64 j.g, .int .i64 j.n, .int .i64 j.k, .string j.u, .string j.f, .string j.t, .string j.c, .int .i64 j.z] ty W) : (loadVar 33 ⟨J, 0, none⟩).run Tryz.prog W = .ok (.agg #[.int .i64 j.g, .int .i64 j.n, .int .i64 j.k, .string j.u, .string j.f, .string j.t, .string j.c, .int .i64 j.z]) W := jld (j := j) k
/-- what mayQueue answers -/
def MPost (r : ByteArray × Int) (w : World) (e : Ending) (w' : World) : Prop := e = .returned (.tuple #[.string r.1, .int .i64 r.2]) ∧ Below w.heap.size w w'
set_option maxHeartbeats 2000000 in
set_option maxRecDepth 100000 in
theorem may_down (s x : ByteArray) (j : Job.Jb) (CS : Array Value) (d : Dsk.Dk) (w : World) (h : DAt w (.agg CS) d) (hdn : d.down = true) :
    Calls Tryz.prog 47 #[.agg CS, .string s, .agg #[.int .i64 j.g, .int .i64 j.n, .int .i64 j.k, .string j.u, .string j.f, .string j.t, .string j.c, .int .i64 j.z], .string x] w fun e w' => MPost (⟨#[]⟩, 9) w e w' := by
  have kB : Hid (DB w.heap.size CS d ((w.alloc (.cells CS 28)).alloc (.cells #[.int .i64 j.g, .int .i64 j.n, .int .i64 j.k, .string j.u, .string j.f, .string j.t, .string j.c, .int .i64 j.z] 33))) := (DB.new h).old _
  have kJ : Hid (Rg.Bk (w.heap.size + 1) [.int .i64 j.g, .int .i64 j.n, .int .i64 j.k, .string j.u, .string j.f, .string j.t, .string j.c, .int .i64 j.z] 33 ((w.alloc (.cells CS 28)).alloc (.cells #[.int .i64 j.g, .int .i64 j.n, .int .i64 j.k, .string j.u, .string j.f, .string j.t, .string j.c, .int .i64 j.z] 33))) := Rg.Bk.new (by simp)
  have hb := Rg.hid (Rg.al2 w (.cells CS 28) (.cells #[.int .i64 j.g, .int .i64 j.n, .int .i64 j.k, .string j.u, .string j.f, .string j.t, .string j.c, .int .i64 j.z] 33))
  clear h
  go_enter Tryz.func47, Tryz.ntmps47
  go_upto_region 1 with fail
  generalize World.alloc _ _ = w1 at *
  obtain ⟨B, hB⟩ : ∃ B, B = w.heap.size := ⟨_, rfl⟩
  obtain ⟨J, hJ⟩ : ∃ J, J = w.heap.size + 1 := ⟨_, rfl⟩
  rw [← hJ] at kJ ⊢
  rw [← hB] at kB ⊢
  clear hB hJ
  have c4 := kB.out.down
  rw [hdn] at c4
  have hz := hb.out
  go_wp2
  go_ret2
  exact ⟨rfl, hz⟩
set_option maxHeartbeats 2000000 in
set_option maxRecDepth 100000 in
theorem may_sys (s x : ByteArray) (j : Job.Jb) (CS : Array Value) (d : Dsk.Dk) (w : World) (h : DAt w (.agg CS) d) (hdn : d.down = false)
    (HS : Hid (∀ W, Calls Tryz.prog 67 #[.string s] W fun e w' => e = .returned (.bool false) ∧ w' = W)) :
    Calls Tryz.prog 47 #[.agg CS, .string s, .agg #[.int .i64 j.g, .int .i64 j.n, .int .i64 j.k, .string j.u, .string j.f, .string j.t, .string j.c, .int .i64 j.z], .string x] w fun e w' => MPost (⟨#[]⟩, 11) w e w' := by
  have kB : Hid (DB w.heap.size CS d ((w.alloc (.cells CS 28)).alloc (.cells #[.int .i64 j.g, .int .i64 j.n, .int .i64 j.k, .string j.u, .string j.f, .string j.t, .string j.c, .int .i64 j.z] 33))) := (DB.new h).old _
  have kJ : Hid (Rg.Bk (w.heap.size + 1) [.int .i64 j.g, .int .i64 j.n, .int .i64 j.k, .string j.u, .string j.f, .string j.t, .string j.c, .int .i64 j.z] 33 ((w.alloc (.cells CS 28)).alloc (.cells #[.int .i64 j.g, .int .i64 j.n, .int .i64 j.k, .string j.u, .string j.f, .string j.t, .string j.c, .int .i64 j.z] 33))) := Rg.Bk.new (by simp)
  have hb := Rg.hid (Rg.al2 w (.cells CS 28) (.cells #[.int .i64 j.g, .int .i64 j.n, .int .i64 j.k, .string j.u, .string j.f, .string j.t, .string j.c, .int .i64 j.z] 33))
  clear h
  go_enter Tryz.func47, Tryz.ntmps47
  go_upto_region 1 with fail
  generalize World.alloc _ _ = w1 at *
  obtain ⟨B, hB⟩ : ∃ B, B = w.heap.size := ⟨_, rfl⟩
  obtain ⟨J, hJ⟩ : ∃ J, J = w.heap.size + 1 := ⟨_, rfl⟩
  rw [← hJ] at kJ ⊢
  rw [← hB] at kB ⊢
  clear hB hJ
  have c4 := kB.out.down
  rw [hdn] at c4
  have hz := hb.out
  go_wp2_with (go_at_call 67; refine (HS.out _).mono ?_; rintro e w2 ⟨rfl, rfl⟩)
  go_ret2
  exact ⟨rfl, hz⟩
set_option maxHeartbeats 2000000 in
set_option maxRecDepth 100000 in
theorem may_long (s x : ByteArray) (j : Job.Jb) (CS : Array Value) (d : Dsk.Dk) (w : World) (h : DAt w (.agg CS) d) (hdn : d.down = false)
    (HS : Hid (∀ W, Calls Tryz.prog 67 #[.string s] W fun e w' => e = .returned (.bool true) ∧ w' = W)) (hx : 6000 < x.size) :
    Calls Tryz.prog 47 #[.agg CS, .string s, .agg #[.int .i64 j.g, .int .i64 j.n, .int .i64 j.k, .string j.u, .string j.f, .string j.t, .string j.c, .int .i64 j.z], .string x] w fun e w' => MPost (⟨#[]⟩, 5) w e w' := by
  have kB : Hid (DB w.heap.size CS d ((w.alloc (.cells CS 28)).alloc (.cells #[.int .i64 j.g, .int .i64 j.n, .int .i64 j.k, .string j.u, .string j.f, .string j.t, .string j.c, .int .i64 j.z] 33))) := (DB.new h).old _
  have kJ : Hid (Rg.Bk (w.heap.size + 1) [.int .i64 j.g, .int .i64 j.n, .int .i64 j.k, .string j.u, .string j.f, .string j.t, .string j.c, .int .i64 j.z] 33 ((w.alloc (.cells CS 28)).alloc (.cells #[.int .i64 j.g, .int .i64 j.n, .int .i64 j.k, .string j.u, .string j.f, .string j.t, .string j.c, .int .i64 j.z] 33))) := Rg.Bk.new (by simp)
  have hb := Rg.hid (Rg.al2 w (.cells CS 28) (.cells #[.int .i64 j.g, .int .i64 j.n, .int .i64 j.k, .string j.u, .string j.f, .string j.t, .string j.c, .int .i64 j.z] 33))
  clear h
  go_enter Tryz.func47, Tryz.ntmps47
  go_upto_region 1 with fail
  generalize World.alloc _ _ = w1 at *
  obtain ⟨B, hB⟩ : ∃ B, B = w.heap.size := ⟨_, rfl⟩
  obtain ⟨J, hJ⟩ : ∃ J, J = w.heap.size + 1 := ⟨_, rfl⟩
  rw [← hJ] at kJ ⊢
  rw [← hB] at kB ⊢
  clear hB hJ
  have c4 := kB.out.down
  rw [hdn] at c4
  have hz := hb.out
  have dx : decide ((6000 : Int) < (x.size : Int)) = true := by simp; omega
  go_wp2_with (go_at_call 67; refine (HS.out _).mono ?_; rintro e w2 ⟨rfl, rfl⟩)
  go_ret2
  exact ⟨rfl, hz⟩
set_option maxHeartbeats 2000000 in
set_option maxRecDepth 100000 in
theorem may_fetch (s x : ByteArray) (j : Job.Jb) (CS : Array Value) (d : Dsk.Dk) (w : World) (h : DAt w (.agg CS) d) (hdn : d.down = false)
    (HS : Hid (∀ W, Calls Tryz.prog 67 #[.string s] W fun e w' => e = .returned (.bool true) ∧ w' = W)) (hx : ¬ 6000 < x.size) (hk : Hid (j.k = 3)) (hne : x ≠ ⟨#[]⟩) :
    Calls Tryz.prog 47 #[.agg CS, .string s, .agg #[.int .i64 j.g, .int .i64 j.n, .int .i64 j.k, .string j.u, .string j.f, .string j.t, .string j.c, .int .i64 j.z], .string x] w fun e w' => MPost (⟨#[]⟩, 1) w e w' := by
  have kB : Hid (DB w.heap.size CS d ((w.alloc (.cells CS 28)).alloc (.cells #[.int .i64 j.g, .int .i64 j.n, .int .i64 j.k, .string j.u, .string j.f, .string j.t, .string j.c, .int .i64 j.z] 33))) := (DB.new h).old _
  have kJ : Hid (Rg.Bk (w.heap.size + 1) [.int .i64 j.g, .int .i64 j.n, .int .i64 j.k, .string j.u, .string j.f, .string j.t, .string j.c, .int .i64 j.z] 33 ((w.alloc (.cells CS 28)).alloc (.cells #[.int .i64 j.g, .int .i64 j.n, .int .i64 j.k, .string j.u, .string j.f, .string j.t, .string j.c, .int .i64 j.z] 33))) := Rg.Bk.new (by simp)
  have hb := Rg.hid (Rg.al2 w (.cells CS 28) (.cells #[.int .i64 j.g, .int .i64 j.n, .int .i64 j.k, .string j.u, .string j.f, .string j.t, .string j.c, .int .i64 j.z] 33))
  clear h
  go_enter Tryz.func47, Tryz.ntmps47
  go_upto_region 1 with fail
  generalize World.alloc _ _ = w1 at *
  obtain ⟨B, hB⟩ : ∃ B, B = w.heap.size := ⟨_, rfl⟩
  obtain ⟨J, hJ⟩ : ∃ J, J = w.heap.size + 1 := ⟨_, rfl⟩
  rw [← hJ] at kJ ⊢
  rw [← hB] at kB ⊢
  clear hB hJ
  have c4 := kB.out.down
  rw [hdn] at c4
  have hz := hb.out
  have dx : decide ((6000 : Int) < (x.size : Int)) = false := by simp; omega
  have c2 : w1.cell? ⟨J, 2, none⟩ = some (.int .i64 j.k) := kJ.out.cell 2
  have ek : (j.k == 3) = true := by simp [hk.out]
  have s0 : ¬ x.toList = [] := fun q => hne (ba_nil q)
  have s1 : x.toList.isEmpty = false := by simpa using s0
  clear hk hne
  go_wp2_with (go_at_call 67; refine (HS.out _).mono ?_; rintro e w2 ⟨rfl, rfl⟩)
  go_ret2
  exact ⟨rfl, hz⟩
set_option maxHeartbeats 2000000 in
set_option maxRecDepth 100000 in
theorem may_num (s x : ByteArray) (j : Job.Jb) (CS : Array Value) (d : Dsk.Dk) (w : World) (h : DAt w (.agg CS) d) (hdn : d.down = false)
    (HS : Hid (∀ W, Calls Tryz.prog 67 #[.string s] W fun e w' => e = .returned (.bool true) ∧ w' = W)) (hx : ¬ 6000 < x.size) (hf : j.k = 3 → x = ⟨#[]⟩) (hn : 99999 < j.n) :
    Calls Tryz.prog 47 #[.agg CS, .string s, .agg #[.int .i64 j.g, .int .i64 j.n, .int .i64 j.k, .string j.u, .string j.f, .string j.t, .string j.c, .int .i64 j.z], .string x] w fun e w' => MPost (⟨#[]⟩, 8) w e w' := by
  have hkx : (¬ j.k = 3 ∧ (j.k == 3) = false) ∨ ((j.k == 3) = true ∧ x.toList = []) := by
    by_cases q : j.k = 3
    · exact .inr ⟨by simp [q], by rw [hf q, tl_eq]⟩
    · exact .inl ⟨q, by simp [q]⟩
  clear hf
  have kB : Hid (DB w.heap.size CS d ((w.alloc (.cells CS 28)).alloc (.cells #[.int .i64 j.g, .int .i64 j.n, .int .i64 j.k, .string j.u, .string j.f, .string j.t, .string j.c, .int .i64 j.z] 33))) := (DB.new h).old _
  have kJ : Hid (Rg.Bk (w.heap.size + 1) [.int .i64 j.g, .int .i64 j.n, .int .i64 j.k, .string j.u, .string j.f, .string j.t, .string j.c, .int .i64 j.z] 33 ((w.alloc (.cells CS 28)).alloc (.cells #[.int .i64 j.g, .int .i64 j.n, .int .i64 j.k, .string j.u, .string j.f, .string j.t, .string j.c, .int .i64 j.z] 33))) := Rg.Bk.new (by simp)
  have hb := Rg.hid (Rg.al2 w (.cells CS 28) (.cells #[.int .i64 j.g, .int .i64 j.n, .int .i64 j.k, .string j.u, .string j.f, .string j.t, .string j.c, .int .i64 j.z] 33))
  clear h
  go_enter Tryz.func47, Tryz.ntmps47
  go_upto_region 1 with fail
  generalize World.alloc _ _ = w1 at *
  obtain ⟨B, hB⟩ : ∃ B, B = w.heap.size := ⟨_, rfl⟩
  obtain ⟨J, hJ⟩ : ∃ J, J = w.heap.size + 1 := ⟨_, rfl⟩
  rw [← hJ] at kJ ⊢
  rw [← hB] at kB ⊢
  clear hB hJ
  have c4 := kB.out.down
  rw [hdn] at c4
  have hz := hb.out
  have dx : decide ((6000 : Int) < (x.size : Int)) = false := by simp; omega
  have c2 : w1.cell? ⟨J, 2, none⟩ = some (.int .i64 j.k) := kJ.out.cell 2
  have c1 : w1.cell? ⟨J, 1, none⟩ = some (.int .i64 j.n) := kJ.out.cell 1
  have dn : decide (99999 < j.n) = true := by simp [hn]
  rcases hkx with ⟨q0, q1⟩ | ⟨q0, q1⟩
  · go_wp2_with (go_at_call 67; refine (HS.out _).mono ?_; rintro e w2 ⟨rfl, rfl⟩)
    go_ret2
    exact ⟨rfl, hz⟩
  · go_wp2_with (go_at_call 67; refine (HS.out _).mono ?_; rintro e w2 ⟨rfl, rfl⟩)
    go_ret2
    exact ⟨rfl, hz⟩
set_option maxHeartbeats 2000000 in
set_option maxRecDepth 100000 in
theorem may_full (s x : ByteArray) (j : Job.Jb) (CS : Array Value) (d : Dsk.Dk) (w : World) (h : DAt w (.agg CS) d) (hdn : d.down = false)
    (HS : Hid (∀ W, Calls Tryz.prog 67 #[.string s] W fun e w' => e = .returned (.bool true) ∧ w' = W)) (hx : ¬ 6000 < x.size) (hf : j.k = 3 → x = ⟨#[]⟩) (hn : ¬ 99999 < j.n)
    (M : Nat) (HJ : Hid (∀ W, Below w.heap.size w W → DAt W (.agg CS) d → Calls Tryz.prog 22 #[.agg CS, .string ⟨#[]⟩] W fun e w' => ∃ a c, e = .returned (.slice a M c) ∧ Below W.heap.size W w')) (hM : 40 ≤ M) :
    Calls Tryz.prog 47 #[.agg CS, .string s, .agg #[.int .i64 j.g, .int .i64 j.n, .int .i64 j.k, .string j.u, .string j.f, .string j.t, .string j.c, .int .i64 j.z], .string x] w fun e w' => MPost (⟨#[]⟩, 8) w e w' := by
  have hkx : (¬ j.k = 3 ∧ (j.k == 3) = false) ∨ ((j.k == 3) = true ∧ x.toList = []) := by
    by_cases q : j.k = 3
    · exact .inr ⟨by simp [q], by rw [hf q, tl_eq]⟩
    · exact .inl ⟨q, by simp [q]⟩
  clear hf
  have kB : Hid (DB w.heap.size CS d ((w.alloc (.cells CS 28)).alloc (.cells #[.int .i64 j.g, .int .i64 j.n, .int .i64 j.k, .string j.u, .string j.f, .string j.t, .string j.c, .int .i64 j.z] 33))) := (DB.new h).old _
  have kJ : Hid (Rg.Bk (w.heap.size + 1) [.int .i64 j.g, .int .i64 j.n, .int .i64 j.k, .string j.u, .string j.f, .string j.t, .string j.c, .int .i64 j.z] 33 ((w.alloc (.cells CS 28)).alloc (.cells #[.int .i64 j.g, .int .i64 j.n, .int .i64 j.k, .string j.u, .string j.f, .string j.t, .string j.c, .int .i64 j.z] 33))) := Rg.Bk.new (by simp)
  have hb := Rg.hid (Rg.al2 w (.cells CS 28) (.cells #[.int .i64 j.g, .int .i64 j.n, .int .i64 j.k, .string j.u, .string j.f, .string j.t, .string j.c, .int .i64 j.z] 33))
  clear h
  go_enter Tryz.func47, Tryz.ntmps47
  go_upto_region 1 with fail
  generalize World.alloc _ _ = w1 at *
  obtain ⟨B, hB⟩ : ∃ B, B = w.heap.size := ⟨_, rfl⟩
  obtain ⟨J, hJ⟩ : ∃ J, J = w.heap.size + 1 := ⟨_, rfl⟩
  rw [← hJ] at kJ ⊢
  rw [← hB] at kB ⊢
  clear hB hJ
  have c4 := kB.out.down
  rw [hdn] at c4
  have dx : decide ((6000 : Int) < (x.size : Int)) = false := by simp; omega
  have c2 : w1.cell? ⟨J, 2, none⟩ = some (.int .i64 j.k) := kJ.out.cell 2
  have c1 : w1.cell? ⟨J, 1, none⟩ = some (.int .i64 j.n) := kJ.out.cell 1
  have dn : decide (99999 < j.n) = false := by simp; omega
  have dm : decide ((40 : Int) ≤ (M : Int)) = true := by simp; omega
  have hl := Rg.hid kB.out.ld
  rcases hkx with ⟨q0, q1⟩ | ⟨q0, q1⟩
  · go_wp2_with (first | (go_at_call 67; refine (HS.out _).mono ?_; rintro e w2 ⟨rfl, rfl⟩) | (refine Rg.wpList_load_row rfl (.tmp 4) 28 rfl rfl hl.out ?_) | (go_at_call 22; refine (HJ.out _ hb.out kB.out.dt).mono ?_; rintro e w3 ⟨ja, jc, rfl, b3⟩))
    go_ret2
    exact ⟨rfl, Rg.chain hb.out b3⟩
  · go_wp2_with (first | (go_at_call 67; refine (HS.out _).mono ?_; rintro e w2 ⟨rfl, rfl⟩) | (refine Rg.wpList_load_row rfl (.tmp 4) 28 rfl rfl hl.out ?_) | (go_at_call 22; refine (HJ.out _ hb.out kB.out.dt).mono ?_; rintro e w3 ⟨ja, jc, rfl, b3⟩))
    go_ret2
    exact ⟨rfl, Rg.chain hb.out b3⟩
set_option maxHeartbeats 2000000 in
set_option maxRecDepth 100000 in
theorem may_text (s x : ByteArray) (j : Job.Jb) (CS : Array Value) (d : Dsk.Dk) (w : World) (h : DAt w (.agg CS) d) (hdn : d.down = false)
    (HS : Hid (∀ W, Calls Tryz.prog 67 #[.string s] W fun e w' => e = .returned (.bool true) ∧ w' = W)) (hx : ¬ 6000 < x.size) (hf : j.k = 3 → x = ⟨#[]⟩) (hn : ¬ 99999 < j.n)
    (M : Nat) (HJ : Hid (∀ W, Below w.heap.size w W → DAt W (.agg CS) d → Calls Tryz.prog 22 #[.agg CS, .string ⟨#[]⟩] W fun e w' => ∃ a c, e = .returned (.slice a M c) ∧ Below W.heap.size W w')) (hM : ¬ 40 ≤ M)
    (T : ByteArray) (E : Int) (HT : Hid (∀ W, Below w.heap.size w W → Calls Tryz.prog 32 #[.agg #[.int .i64 j.g, .int .i64 j.n, .int .i64 j.k, .string j.u, .string j.f, .string j.t, .string j.c, .int .i64 j.z]] W fun e w' => e = .returned (.tuple #[.string T, .int .i64 E]) ∧ Below W.heap.size W w')) (hE : ¬ E = 0) :
    Calls Tryz.prog 47 #[.agg CS, .string s, .agg #[.int .i64 j.g, .int .i64 j.n, .int .i64 j.k, .string j.u, .string j.f, .string j.t, .string j.c, .int .i64 j.z], .string x] w fun e w' => MPost (⟨#[]⟩, E) w e w' := by
  have hkx : (¬ j.k = 3 ∧ (j.k == 3) = false) ∨ ((j.k == 3) = true ∧ x.toList = []) := by
    by_cases q : j.k = 3
    · exact .inr ⟨by simp [q], by rw [hf q, tl_eq]⟩
    · exact .inl ⟨q, by simp [q]⟩
  clear hf
  have kB : Hid (DB w.heap.size CS d ((w.alloc (.cells CS 28)).alloc (.cells #[.int .i64 j.g, .int .i64 j.n, .int .i64 j.k, .string j.u, .string j.f, .string j.t, .string j.c, .int .i64 j.z] 33))) := (DB.new h).old _
  have kJ : Hid (Rg.Bk (w.heap.size + 1) [.int .i64 j.g, .int .i64 j.n, .int .i64 j.k, .string j.u, .string j.f, .string j.t, .string j.c, .int .i64 j.z] 33 ((w.alloc (.cells CS 28)).alloc (.cells #[.int .i64 j.g, .int .i64 j.n, .int .i64 j.k, .string j.u, .string j.f, .string j.t, .string j.c, .int .i64 j.z] 33))) := Rg.Bk.new (by simp)
  have hb := Rg.hid (Rg.al2 w (.cells CS 28) (.cells #[.int .i64 j.g, .int .i64 j.n, .int .i64 j.k, .string j.u, .string j.f, .string j.t, .string j.c, .int .i64 j.z] 33))
  clear h
  go_enter Tryz.func47, Tryz.ntmps47
  go_upto_region 1 with fail
  generalize World.alloc _ _ = w1 at *
  obtain ⟨B, hB⟩ : ∃ B, B = w.heap.size := ⟨_, rfl⟩
  obtain ⟨J, hJ⟩ : ∃ J, J = w.heap.size + 1 := ⟨_, rfl⟩
  rw [← hJ] at kJ ⊢
  rw [← hB] at kB ⊢
  clear hB hJ
  have c4 := kB.out.down
  rw [hdn] at c4
  have dx : decide ((6000 : Int) < (x.size : Int)) = false := by simp; omega
  have c2 : w1.cell? ⟨J, 2, none⟩ = some (.int .i64 j.k) := kJ.out.cell 2
  have c1 : w1.cell? ⟨J, 1, none⟩ = some (.int .i64 j.n) := kJ.out.cell 1
  have dn : decide (99999 < j.n) = false := by simp; omega
  have dm : decide ((40 : Int) ≤ (M : Int)) = false := by simp; omega
  have hl := Rg.hid kB.out.ld
  have e0 : (E != 0) = true := by rw [bne_iff_ne]; exact hE
  rcases hkx with ⟨q0, q1⟩ | ⟨q0, q1⟩
  · go_wp2_with (first | (go_at_call 67; refine (HS.out _).mono ?_; rintro e w2 ⟨rfl, rfl⟩) | (refine Rg.wpList_load_row rfl (.tmp 4) 28 rfl rfl hl.out ?_) | (go_at_call 22; refine (HJ.out _ hb.out kB.out.dt).mono ?_; rintro e w3 ⟨ja, jc, rfl, b3⟩; have hb3 := Rg.hid (Rg.chain hb.out b3); have kJ3 := Rg.hid (kJ.out.below b3 kJ.out.lt); have hlj := Rg.hid (jld2 kJ3.out)) | (with_reducible refine Rg.isld (.tmp 6) 33 ?_; refine Rg.lld (.tmp 6) 33 rfl hlj.out ?_) | (go_at_call 32; refine (HT.out _ hb3.out).mono ?_; rintro e w4 ⟨rfl, b4⟩))
    go_ret2
    exact ⟨rfl, Rg.chain hb3.out b4⟩
  · go_wp2_with (first | (go_at_call 67; refine (HS.out _).mono ?_; rintro e w2 ⟨rfl, rfl⟩) | (refine Rg.wpList_load_row rfl (.tmp 4) 28 rfl rfl hl.out ?_) | (go_at_call 22; refine (HJ.out _ hb.out kB.out.dt).mono ?_; rintro e w3 ⟨ja, jc, rfl, b3⟩; have hb3 := Rg.hid (Rg.chain hb.out b3); have kJ3 := Rg.hid (kJ.out.below b3 kJ.out.lt); have hlj := Rg.hid (jld2 kJ3.out)) | (with_reducible refine Rg.isld (.tmp 6) 33 ?_; refine Rg.lld (.tmp 6) 33 rfl hlj.out ?_) | (go_at_call 32; refine (HT.out _ hb3.out).mono ?_; rintro e w4 ⟨rfl, b4⟩))
    go_ret2
    exact ⟨rfl, Rg.chain hb3.out b4⟩
set_option maxHeartbeats 2000000 in
set_option maxRecDepth 100000 in
theorem may_room (s x : ByteArray) (j : Job.Jb) (CS : Array Value) (d : Dsk.Dk) (w : World) (h : DAt w (.agg CS) d) (hdn : d.down = false)
    (HS : Hid (∀ W, Calls Tryz.prog 67 #[.string s] W fun e w' => e = .returned (.bool true) ∧ w' = W)) (hx : ¬ 6000 < x.size) (hf : j.k = 3 → x = ⟨#[]⟩) (hn : ¬ 99999 < j.n)
    (M : Nat) (HJ : Hid (∀ W, Below w.heap.size w W → DAt W (.agg CS) d → Calls Tryz.prog 22 #[.agg CS, .string ⟨#[]⟩] W fun e w' => ∃ a c, e = .returned (.slice a M c) ∧ Below W.heap.size W w')) (hM : ¬ 40 ≤ M)
    (T : ByteArray) (HT : Hid (∀ W, Below w.heap.size w W → Calls Tryz.prog 32 #[.agg #[.int .i64 j.g, .int .i64 j.n, .int .i64 j.k, .string j.u, .string j.f, .string j.t, .string j.c, .int .i64 j.z]] W fun e w' => e = .returned (.tuple #[.string T, .int .i64 0]) ∧ Below W.heap.size W w'))
    (U : Int) (HU : Hid (∀ W, Below w.heap.size w W → DAt W (.agg CS) d → Calls Tryz.prog 87 #[.agg CS] W fun e w' => e = .returned (.int .i64 U) ∧ Below W.heap.size W w')) (Z1 Z2 Z3 : Int) (z1 : IntKind.i64.wrap (U + (x.size : Int)) = Z1) (z2 : IntKind.i64.wrap (Z1 + (T.size : Int)) = Z2) (z3 : IntKind.i64.wrap (Z2 + 60) = Z3) (hz : d.cap < Z3) :
    Calls Tryz.prog 47 #[.agg CS, .string s, .agg #[.int .i64 j.g, .int .i64 j.n, .int .i64 j.k, .string j.u, .string j.f, .string j.t, .string j.c, .int .i64 j.z], .string x] w fun e w' => MPost (⟨#[]⟩, 8) w e w' := by
  have hkx : (¬ j.k = 3 ∧ (j.k == 3) = false) ∨ ((j.k == 3) = true ∧ x.toList = []) := by
    by_cases q : j.k = 3
    · exact .inr ⟨by simp [q], by rw [hf q, tl_eq]⟩
    · exact .inl ⟨q, by simp [q]⟩
  clear hf
  have kB : Hid (DB w.heap.size CS d ((w.alloc (.cells CS 28)).alloc (.cells #[.int .i64 j.g, .int .i64 j.n, .int .i64 j.k, .string j.u, .string j.f, .string j.t, .string j.c, .int .i64 j.z] 33))) := (DB.new h).old _
  have kJ : Hid (Rg.Bk (w.heap.size + 1) [.int .i64 j.g, .int .i64 j.n, .int .i64 j.k, .string j.u, .string j.f, .string j.t, .string j.c, .int .i64 j.z] 33 ((w.alloc (.cells CS 28)).alloc (.cells #[.int .i64 j.g, .int .i64 j.n, .int .i64 j.k, .string j.u, .string j.f, .string j.t, .string j.c, .int .i64 j.z] 33))) := Rg.Bk.new (by simp)
  have hb := Rg.hid (Rg.al2 w (.cells CS 28) (.cells #[.int .i64 j.g, .int .i64 j.n, .int .i64 j.k, .string j.u, .string j.f, .string j.t, .string j.c, .int .i64 j.z] 33))
  clear h
  go_enter Tryz.func47, Tryz.ntmps47
  go_upto_region 1 with fail
  generalize World.alloc _ _ = w1 at *
  obtain ⟨B, hB⟩ : ∃ B, B = w.heap.size := ⟨_, rfl⟩
  obtain ⟨J, hJ⟩ : ∃ J, J = w.heap.size + 1 := ⟨_, rfl⟩
  rw [← hJ] at kJ ⊢
  rw [← hB] at kB ⊢
  clear hB hJ
  have c4 := kB.out.down
  rw [hdn] at c4
  have dx : decide ((6000 : Int) < (x.size : Int)) = false := by simp; omega
  have c2 : w1.cell? ⟨J, 2, none⟩ = some (.int .i64 j.k) := kJ.out.cell 2
  have c1 : w1.cell? ⟨J, 1, none⟩ = some (.int .i64 j.n) := kJ.out.cell 1
  have dn : decide (99999 < j.n) = false := by simp; omega
  have dm : decide ((40 : Int) ≤ (M : Int)) = false := by simp; omega
  have hl := Rg.hid kB.out.ld
  have dz : decide (d.cap < Z3) = true := by simp [hz]
  rcases hkx with ⟨q0, q1⟩ | ⟨q0, q1⟩
  · go_upto_region 14 with (first | (go_at_call 67; refine (HS.out _).mono ?_; rintro e w2 ⟨rfl, rfl⟩) | (refine Rg.wpList_load_row rfl (.tmp 4) 28 rfl rfl hl.out ?_) | (go_at_call 22; refine (HJ.out _ hb.out kB.out.dt).mono ?_; rintro e w3 ⟨ja, jc, rfl, b3⟩; have hb3 := Rg.hid (Rg.chain hb.out b3); have kJ3 := Rg.hid (kJ.out.below b3 kJ.out.lt); have hlj := Rg.hid (jld2 kJ3.out)) | (with_reducible refine Rg.isld (.tmp 6) 33 ?_; refine Rg.lld (.tmp 6) 33 rfl hlj.out ?_) | (go_at_call 32; refine (HT.out _ hb3.out).mono ?_; rintro e w4 ⟨rfl, b4⟩))
    have kB4 := Rg.hid ((kB.out.below b3).below b4)
    have hb4 := Rg.hid (Rg.chain hb3.out b4)
    clear kB kJ hb b3 b4 hb3 kJ3 hlj hl c1 c2 c4
    refine Rg.beginL (fun (w' : World) => DB B CS d w') [] (by kernel_rfl) ?_ (fun hH0 => ?_)
    · exact kB4.out.drew
    refine Rg.tlv 0 (some 45) (.agg CS) (fun w hSw => Rg.xload _ _ rfl rfl (hSw.ld)) ?_
    refine Rg.tlq 2 (some 47) ?_
    refine Rg.tlq 3 (some 48) ?_
    refine Rg.tlq 5 (some 50) ?_
    refine Rg.tlq 6 (some 51) ?_
    refine Rg.tlq 9 (some 54) ?_
    refine Rg.tlv 10 (some 55) (.int .i64 d.cap) ?_ ?_
    · intro w hSw; have c := hSw.cap; clear hSw; go_simp; try with_reducible rfl
    refine Rg.AnyL.one 1 (o := { dst := some 46, op := _, type := _, pos := _, after := _, guard := _ }) (by decide) (fun K hK => ?_)
    go_simp; go_at_call 87; refine (HU.out _ hb4.out.drew kB4.out.drew.dt).mono ?_; rintro e w5 ⟨rfl, b5⟩
    refine hK.out _ _ ?_ (fun hH1 => ?_)
    · exact kB4.out.drew.below b5
    clear hK K hH0
    try simp only [Act.put]
    refine Rg.tlv 4 (some 49) (.int .i64 Z1) ?_ ?_
    · intro w hSw; clear hSw; go_simp; try with_reducible rfl
    refine Rg.tlv 7 (some 52) (.int .i64 Z2) ?_ ?_
    · intro w hSw; clear hSw; go_simp; try with_reducible rfl
    refine Rg.tlv 8 (some 53) (.int .i64 Z3) ?_ ?_
    · intro w hSw; clear hSw; go_simp; try with_reducible rfl
    refine Rg.tlq 11 (some 56) ?_
    refine Rg.AnyL.done ?_
    go_wp2
    go_ret2
    exact ⟨rfl, Rg.chain hb4.out.drew b5⟩
  · go_upto_region 14 with (first | (go_at_call 67; refine (HS.out _).mono ?_; rintro e w2 ⟨rfl, rfl⟩) | (refine Rg.wpList_load_row rfl (.tmp 4) 28 rfl rfl hl.out ?_) | (go_at_call 22; refine (HJ.out _ hb.out kB.out.dt).mono ?_; rintro e w3 ⟨ja, jc, rfl, b3⟩; have hb3 := Rg.hid (Rg.chain hb.out b3); have kJ3 := Rg.hid (kJ.out.below b3 kJ.out.lt); have hlj := Rg.hid (jld2 kJ3.out)) | (with_reducible refine Rg.isld (.tmp 6) 33 ?_; refine Rg.lld (.tmp 6) 33 rfl hlj.out ?_) | (go_at_call 32; refine (HT.out _ hb3.out).mono ?_; rintro e w4 ⟨rfl, b4⟩))
    have kB4 := Rg.hid ((kB.out.below b3).below b4)
    have hb4 := Rg.hid (Rg.chain hb3.out b4)
    clear kB kJ hb b3 b4 hb3 kJ3 hlj hl c1 c2 c4
    refine Rg.beginL (fun (w' : World) => DB B CS d w') [] (by kernel_rfl) ?_ (fun hH0 => ?_)
    · exact kB4.out.drew
    refine Rg.tlv 0 (some 45) (.agg CS) (fun w hSw => Rg.xload _ _ rfl rfl (hSw.ld)) ?_
    refine Rg.tlq 2 (some 47) ?_
    refine Rg.tlq 3 (some 48) ?_
    refine Rg.tlq 5 (some 50) ?_
    refine Rg.tlq 6 (some 51) ?_
    refine Rg.tlq 9 (some 54) ?_
    refine Rg.tlv 10 (some 55) (.int .i64 d.cap) ?_ ?_
    · intro w hSw; have c := hSw.cap; clear hSw; go_simp; try with_reducible rfl
    refine Rg.AnyL.one 1 (o := { dst := some 46, op := _, type := _, pos := _, after := _, guard := _ }) (by decide) (fun K hK => ?_)
    go_simp; go_at_call 87; refine (HU.out _ hb4.out.drew kB4.out.drew.dt).mono ?_; rintro e w5 ⟨rfl, b5⟩
    refine hK.out _ _ ?_ (fun hH1 => ?_)
    · exact kB4.out.drew.below b5
    clear hK K hH0
    try simp only [Act.put]
    refine Rg.tlv 4 (some 49) (.int .i64 Z1) ?_ ?_
    · intro w hSw; clear hSw; go_simp; try with_reducible rfl
    refine Rg.tlv 7 (some 52) (.int .i64 Z2) ?_ ?_
    · intro w hSw; clear hSw; go_simp; try with_reducible rfl
    refine Rg.tlv 8 (some 53) (.int .i64 Z3) ?_ ?_
    · intro w hSw; clear hSw; go_simp; try with_reducible rfl
    refine Rg.tlq 11 (some 56) ?_
    refine Rg.AnyL.done ?_
    go_wp2
    go_ret2
    exact ⟨rfl, Rg.chain hb4.out.drew b5⟩
set_option maxHeartbeats 2000000 in
set_option maxRecDepth 100000 in
theorem may_yes (s x : ByteArray) (j : Job.Jb) (CS : Array Value) (d : Dsk.Dk) (w : World) (h : DAt w (.agg CS) d) (hdn : d.down = false)
    (HS : Hid (∀ W, Calls Tryz.prog 67 #[.string s] W fun e w' => e = .returned (.bool true) ∧ w' = W)) (hx : ¬ 6000 < x.size) (hf : j.k = 3 → x = ⟨#[]⟩) (hn : ¬ 99999 < j.n)
    (M : Nat) (HJ : Hid (∀ W, Below w.heap.size w W → DAt W (.agg CS) d → Calls Tryz.prog 22 #[.agg CS, .string ⟨#[]⟩] W fun e w' => ∃ a c, e = .returned (.slice a M c) ∧ Below W.heap.size W w')) (hM : ¬ 40 ≤ M)
    (T : ByteArray) (HT : Hid (∀ W, Below w.heap.size w W → Calls Tryz.prog 32 #[.agg #[.int .i64 j.g, .int .i64 j.n, .int .i64 j.k, .string j.u, .string j.f, .string j.t, .string j.c, .int .i64 j.z]] W fun e w' => e = .returned (.tuple #[.string T, .int .i64 0]) ∧ Below W.heap.size W w'))
    (U : Int) (HU : Hid (∀ W, Below w.heap.size w W → DAt W (.agg CS) d → Calls Tryz.prog 87 #[.agg CS] W fun e w' => e = .returned (.int .i64 U) ∧ Below W.heap.size W w')) (Z1 Z2 Z3 : Int) (z1 : IntKind.i64.wrap (U + (x.size : Int)) = Z1) (z2 : IntKind.i64.wrap (Z1 + (T.size : Int)) = Z2) (z3 : IntKind.i64.wrap (Z2 + 60) = Z3) (hz : ¬ d.cap < Z3) :
    Calls Tryz.prog 47 #[.agg CS, .string s, .agg #[.int .i64 j.g, .int .i64 j.n, .int .i64 j.k, .string j.u, .string j.f, .string j.t, .string j.c, .int .i64 j.z], .string x] w fun e w' => MPost (T, 0) w e w' := by
  have hkx : (¬ j.k = 3 ∧ (j.k == 3) = false) ∨ ((j.k == 3) = true ∧ x.toList = []) := by
    by_cases q : j.k = 3
    · exact .inr ⟨by simp [q], by rw [hf q, tl_eq]⟩
    · exact .inl ⟨q, by simp [q]⟩
  clear hf
  have kB : Hid (DB w.heap.size CS d ((w.alloc (.cells CS 28)).alloc (.cells #[.int .i64 j.g, .int .i64 j.n, .int .i64 j.k, .string j.u, .string j.f, .string j.t, .string j.c, .int .i64 j.z] 33))) := (DB.new h).old _
  have kJ : Hid (Rg.Bk (w.heap.size + 1) [.int .i64 j.g, .int .i64 j.n, .int .i64 j.k, .string j.u, .string j.f, .string j.t, .string j.c, .int .i64 j.z] 33 ((w.alloc (.cells CS 28)).alloc (.cells #[.int .i64 j.g, .int .i64 j.n, .int .i64 j.k, .string j.u, .string j.f, .string j.t, .string j.c, .int .i64 j.z] 33))) := Rg.Bk.new (by simp)
  have hb := Rg.hid (Rg.al2 w (.cells CS 28) (.cells #[.int .i64 j.g, .int .i64 j.n, .int .i64 j.k, .string j.u, .string j.f, .string j.t, .string j.c, .int .i64 j.z] 33))
  clear h
  go_enter Tryz.func47, Tryz.ntmps47
  go_upto_region 1 with fail
  generalize World.alloc _ _ = w1 at *
  obtain ⟨B, hB⟩ : ∃ B, B = w.heap.size := ⟨_, rfl⟩
  obtain ⟨J, hJ⟩ : ∃ J, J = w.heap.size + 1 := ⟨_, rfl⟩
  rw [← hJ] at kJ ⊢
  rw [← hB] at kB ⊢
  clear hB hJ
  have c4 := kB.out.down
  rw [hdn] at c4
  have dx : decide ((6000 : Int) < (x.size : Int)) = false := by simp; omega
  have c2 : w1.cell? ⟨J, 2, none⟩ = some (.int .i64 j.k) := kJ.out.cell 2
  have c1 : w1.cell? ⟨J, 1, none⟩ = some (.int .i64 j.n) := kJ.out.cell 1
  have dn : decide (99999 < j.n) = false := by simp; omega
  have dm : decide ((40 : Int) ≤ (M : Int)) = false := by simp; omega
  have hl := Rg.hid kB.out.ld
  have dz : decide (d.cap < Z3) = false := by simpa using hz
  rcases hkx with ⟨q0, q1⟩ | ⟨q0, q1⟩
  · go_upto_region 14 with (first | (go_at_call 67; refine (HS.out _).mono ?_; rintro e w2 ⟨rfl, rfl⟩) | (refine Rg.wpList_load_row rfl (.tmp 4) 28 rfl rfl hl.out ?_) | (go_at_call 22; refine (HJ.out _ hb.out kB.out.dt).mono ?_; rintro e w3 ⟨ja, jc, rfl, b3⟩; have hb3 := Rg.hid (Rg.chain hb.out b3); have kJ3 := Rg.hid (kJ.out.below b3 kJ.out.lt); have hlj := Rg.hid (jld2 kJ3.out)) | (with_reducible refine Rg.isld (.tmp 6) 33 ?_; refine Rg.lld (.tmp 6) 33 rfl hlj.out ?_) | (go_at_call 32; refine (HT.out _ hb3.out).mono ?_; rintro e w4 ⟨rfl, b4⟩))
    have kB4 := Rg.hid ((kB.out.below b3).below b4)
    have hb4 := Rg.hid (Rg.chain hb3.out b4)
    clear kB kJ hb b3 b4 hb3 kJ3 hlj hl c1 c2 c4
    refine Rg.beginL (fun (w' : World) => DB B CS d w') [] (by kernel_rfl) ?_ (fun hH0 => ?_)
    · exact kB4.out.drew
    refine Rg.tlv 0 (some 45) (.agg CS) (fun w hSw => Rg.xload _ _ rfl rfl (hSw.ld)) ?_
    refine Rg.tlq 2 (some 47) ?_
    refine Rg.tlq 3 (some 48) ?_
    refine Rg.tlq 5 (some 50) ?_
    refine Rg.tlq 6 (some 51) ?_
    refine Rg.tlq 9 (some 54) ?_
    refine Rg.tlv 10 (some 55) (.int .i64 d.cap) ?_ ?_
    · intro w hSw; have c := hSw.cap; clear hSw; go_simp; try with_reducible rfl
    refine Rg.AnyL.one 1 (o := { dst := some 46, op := _, type := _, pos := _, after := _, guard := _ }) (by decide) (fun K hK => ?_)
    go_simp; go_at_call 87; refine (HU.out _ hb4.out.drew kB4.out.drew.dt).mono ?_; rintro e w5 ⟨rfl, b5⟩
    refine hK.out _ _ ?_ (fun hH1 => ?_)
    · exact kB4.out.drew.below b5
    clear hK K hH0
    try simp only [Act.put]
    refine Rg.tlv 4 (some 49) (.int .i64 Z1) ?_ ?_
    · intro w hSw; clear hSw; go_simp; try with_reducible rfl
    refine Rg.tlv 7 (some 52) (.int .i64 Z2) ?_ ?_
    · intro w hSw; clear hSw; go_simp; try with_reducible rfl
    refine Rg.tlv 8 (some 53) (.int .i64 Z3) ?_ ?_
    · intro w hSw; clear hSw; go_simp; try with_reducible rfl
    refine Rg.tlq 11 (some 56) ?_
    refine Rg.AnyL.done ?_
    go_wp2
    go_ret2
    exact ⟨rfl, Rg.chain hb4.out.drew b5⟩
  · go_upto_region 14 with (first | (go_at_call 67; refine (HS.out _).mono ?_; rintro e w2 ⟨rfl, rfl⟩) | (refine Rg.wpList_load_row rfl (.tmp 4) 28 rfl rfl hl.out ?_) | (go_at_call 22; refine (HJ.out _ hb.out kB.out.dt).mono ?_; rintro e w3 ⟨ja, jc, rfl, b3⟩; have hb3 := Rg.hid (Rg.chain hb.out b3); have kJ3 := Rg.hid (kJ.out.below b3 kJ.out.lt); have hlj := Rg.hid (jld2 kJ3.out)) | (with_reducible refine Rg.isld (.tmp 6) 33 ?_; refine Rg.lld (.tmp 6) 33 rfl hlj.out ?_) | (go_at_call 32; refine (HT.out _ hb3.out).mono ?_; rintro e w4 ⟨rfl, b4⟩))
    have kB4 := Rg.hid ((kB.out.below b3).below b4)
    have hb4 := Rg.hid (Rg.chain hb3.out b4)
    clear kB kJ hb b3 b4 hb3 kJ3 hlj hl c1 c2 c4
    refine Rg.beginL (fun (w' : World) => DB B CS d w') [] (by kernel_rfl) ?_ (fun hH0 => ?_)
    · exact kB4.out.drew
    refine Rg.tlv 0 (some 45) (.agg CS) (fun w hSw => Rg.xload _ _ rfl rfl (hSw.ld)) ?_
    refine Rg.tlq 2 (some 47) ?_
    refine Rg.tlq 3 (some 48) ?_
    refine Rg.tlq 5 (some 50) ?_
    refine Rg.tlq 6 (some 51) ?_
    refine Rg.tlq 9 (some 54) ?_
    refine Rg.tlv 10 (some 55) (.int .i64 d.cap) ?_ ?_
    · intro w hSw; have c := hSw.cap; clear hSw; go_simp; try with_reducible rfl
    refine Rg.AnyL.one 1 (o := { dst := some 46, op := _, type := _, pos := _, after := _, guard := _ }) (by decide) (fun K hK => ?_)
    go_simp; go_at_call 87; refine (HU.out _ hb4.out.drew kB4.out.drew.dt).mono ?_; rintro e w5 ⟨rfl, b5⟩
    refine hK.out _ _ ?_ (fun hH1 => ?_)
    · exact kB4.out.drew.below b5
    clear hK K hH0
    try simp only [Act.put]
    refine Rg.tlv 4 (some 49) (.int .i64 Z1) ?_ ?_
    · intro w hSw; clear hSw; go_simp; try with_reducible rfl
    refine Rg.tlv 7 (some 52) (.int .i64 Z2) ?_ ?_
    · intro w hSw; clear hSw; go_simp; try with_reducible rfl
    refine Rg.tlv 8 (some 53) (.int .i64 Z3) ?_ ?_
    · intro w hSw; clear hSw; go_simp; try with_reducible rfl
    refine Rg.tlq 11 (some 56) ?_
    refine Rg.AnyL.done ?_
    go_wp2
    go_ret2
    exact ⟨rfl, Rg.chain hb4.out.drew b5⟩
end Go.Proofs.YtmilfamjkiemaaaGreatDoor
