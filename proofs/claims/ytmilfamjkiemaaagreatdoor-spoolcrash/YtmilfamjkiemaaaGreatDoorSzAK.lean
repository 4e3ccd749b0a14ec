/-
  Layer 6: a disk in memory; roomOf, New, isName, spend. Layer 6: names compared; the search among rising files.
-/
import Derived.Test.YtmilfamjkiemaaaGreatDoorSzAD
import Derived.Test.YtmilfamjkiemaaaGreatDoorSzAA
import Derived.Test.YtmilfamjkiemaaaGreatDoorSzAF
import Derived.WalkMore
namespace Go.Proofs.YtmilfamjkiemaaaGreatDoor
open Go.RowKit

/-- a file's cells -/
def fileE : Rg.El Dsk.Fl := { enc := fun f => [.string f.n, .string f.d], m := 2, hm := fun _ => rfl, pos := by decide, one := fun x u hu => by simp at hu; rcases hu with rfl | rfl <;> rfl, ty := 84 }
/-- an operation's cells -/
def opE : Rg.El Dsk.Dop := { enc := fun o => [.int .i64 o.k, .string o.n, .string o.t, .string o.d], m := 4, hm := fun _ => rfl, pos := by decide, one := fun x u hu => by simp at hu; rcases hu with rfl | rfl | rfl | rfl <;> rfl, ty := 87 }

namespace Dsk
/-- a disk -/
structure Dk where
  safe : List Fl
  ops : List Dop
  cap : Int
  fuse : Int
  down : Bool
/-- P6.1: the room nearest to n -/
def room (n : Int) : Int := if n ≤ 0 then 0 else if 60000 ≤ n then 60000 else n
def new (n : Int) : Dk := ⟨[], [], room n, -1, false⟩
def okc (c : UInt8) : Bool := decide (33 ≤ c.toNat ∧ c.toNat ≤ 126 ∧ c.toNat ≠ 47)
/-- P6.1: a file's name -/
def isName (s : ByteArray) : Bool := s.data.toList.all okc && decide (1 ≤ s.size ∧ s.size ≤ 30)
/-- one operation less -/
def burn (d : Dk) : Dk := if d.fuse > 0 then { d with fuse := d.fuse - 1 } else d
end Dsk

/-- a disk as a value, its rows in memory -/
def dval (sa : Option Addr) (sn sc : Nat) (oa : Option Addr) (on oc : Nat) (cap fuse : Int) (down : Bool) : Value := .agg #[.slice sa sn sc, .slice oa on oc, .int .i64 cap, .int .i64 fuse, .bool down]
def DAt (W : World) (v : Value) (d : Dsk.Dk) : Prop := ∃ sa sc oa oc, v = dval sa d.safe.length sc oa d.ops.length oc d.cap d.fuse d.down ∧ fileE.Row W sa d.safe ∧ opE.Row W oa d.ops ∧ d.safe.length ≤ sc ∧ d.ops.length ≤ oc
theorem DAt.below {W W' : World} {v : Value} {d : Dsk.Dk} (h : DAt W v d) (hb : Below W.heap.size W W') : DAt W' v d := by
  obtain ⟨sa, sc, oa, oc, h1, h2, h3, h4, h5⟩ := h
  exact ⟨sa, sc, oa, oc, h1, h2.below hb, h3.below hb, h4, h5⟩

set_option maxHeartbeats 400000 in
theorem roomOf_any (n : Int) (w : World) : Calls Tryz.prog 31 #[.int .i64 n] w fun e w' => e = .returned (.int .i64 (Dsk.room n)) ∧ w' = w := by
  have hr : Hid (Dsk.room n = if n ≤ 0 then 0 else if 60000 ≤ n then 60000 else n) := rfl
  go_enter Tryz.func31, Tryz.ntmps31
  go_wp2
  all_goals
    go_ret
    refine ⟨ret_int ?_, rfl⟩
    rw [hr.out]
    (repeat' split) <;> omega

set_option maxHeartbeats 400000 in
theorem new_any (n : Int) (w : World) : Calls Tryz.prog 10 #[.int .i64 n] w fun e w' => e = .returned (dval none 0 0 none 0 0 (Dsk.room n) (-1) false) ∧ Below w.heap.size w w' := by
  have H := Rg.hid (roomOf_any n)
  go_enter Tryz.func10, Tryz.ntmps10
  go_wp2_with (go_at_call 31; refine (H.out _).mono ?_; rintro e w' ⟨rfl, rfl⟩)
  exact bodyPost_ret (v := dval none 0 0 none 0 0 (Dsk.room n) (-1) false) (by simp [results, Tryz.results10, go_sem, dval]) rfl ⟨rfl, Rg.al1 _ _⟩

namespace Dsk
theorem all_not (s : ByteArray) (k : Nat) (h : k < s.size) (h2 : okc s[k] = false) : s.data.toList.all okc = false := by
  rw [List.all_eq_false]
  have e : s[k] = s.data.toList[k]'(by simpa using h) := rfl
  exact ⟨s[k], by rw [e]; exact List.getElem_mem _, by simp [h2]⟩
theorem all_take (s : ByteArray) (k : Nat) (h : k < s.size) (h1 : (s.data.toList.take k).all okc = true) (h2 : okc s[k] = true) : (s.data.toList.take (k + 1)).all okc = true := by
  rw [List.take_succ_eq_append_getElem (by simpa using h), List.all_append, h1]
  have e : s[k] = s.data.toList[k]'(by simpa using h) := rfl
  rw [e] at h2
  simpa using h2
theorem isName_no {s : ByteArray} (h : s.data.toList.all okc = false) : isName s = false := by unfold isName; rw [h]; rfl
theorem isName_yes {s : ByteArray} (h : s.data.toList.all okc = true) : isName s = decide (1 ≤ s.size ∧ s.size ≤ 30) := by unfold isName; rw [h]; rfl
theorem empty_size {s : ByteArray} : (s.toList == []) = decide (s.size = 0) := by
  rw [tl_eq]
  have e : s.size = s.data.toList.length := rfl
  cases h : s.data.toList with
  | nil => rw [h] at e; simp at e; simp [e]
  | cons a l => rw [h] at e; simp at e; simp [e]
end Dsk

set_option maxHeartbeats 1000000 in
theorem isName_any (s : ByteArray) (w : World) (hs : s.size ≤ maxLen) :
    Calls Tryz.prog 77 #[.string s] w fun e w' => e = .returned (.bool (Dsk.isName s)) ∧ w' = w := by
  unfold maxLen at hs
  go_enter Tryz.func77, Tryz.ntmps77
  go_wp2
  go_loop [6] (fun i => ∃ k : Nat, k ≤ s.size ∧ i = .int .i64 k ∧ Hid ((s.data.toList.take k).all Dsk.okc = true)) (fun i => s.size - (intOf i).toNat)
  case atStart => exact ⟨0, Nat.zero_le _, rfl, rfl⟩
  case round =>
    obtain ⟨k, hk, rfl, hall⟩ := hrel
    by_cases hlt : k < s.size
    · cases ho : Dsk.okc s[k]
      · have hr : Hid (Dsk.isName s = false) := Dsk.isName_no (Dsk.all_not s k hlt ho)
        unfold Dsk.okc at ho
        rw [decide_eq_false_iff_not] at ho
        clear hall
        by_cases h1 : s[k].toNat < 33
        · have d1 : decide ((s[k].toNat : Int) < 33) = true := by simp; omega
          clear ho
          go_wp2
          go_ret
          exact ⟨ret_bool hr.out.symm, rfl⟩
        · have d1 : decide ((s[k].toNat : Int) < 33) = false := by simp; omega
          by_cases h2 : 126 < s[k].toNat
          · have d2 : decide ((126 : Int) < (s[k].toNat : Int)) = true := by simp; omega
            clear ho
            go_wp2
            go_ret
            exact ⟨ret_bool hr.out.symm, rfl⟩
          · have d2 : decide ((126 : Int) < (s[k].toNat : Int)) = false := by simp; omega
            have d3 : ((s[k].toNat : Int) == 47) = true := by simp; omega
            clear ho
            go_wp2
            go_ret
            exact ⟨ret_bool hr.out.symm, rfl⟩
      · have hn : Hid ((s.data.toList.take (k + 1)).all Dsk.okc = true) := Dsk.all_take s k hlt hall.out ho
        unfold Dsk.okc at ho
        rw [decide_eq_true_iff] at ho
        clear hall
        have d1 : decide ((s[k].toNat : Int) < 33) = false := by simp; omega
        have d2 : decide ((126 : Int) < (s[k].toNat : Int)) = false := by simp; omega
        have d3 : ((s[k].toNat : Int) == 47) = false := by simp; omega
        clear ho
        go_wp2
        go_round
        case rel => exact ⟨k + 1, by omega, by go_num, hn⟩
        case measure => simp [intOf]; omega
    · obtain rfl : k = s.size := by omega
      have hr : Hid (Dsk.isName s = decide (1 ≤ s.size ∧ s.size ≤ 30)) := by
        refine Dsk.isName_yes ?_
        have := hall.out
        rw [List.take_of_length_le (show s.data.toList.length ≤ s.size from Nat.le_refl _)] at this
        exact this
      clear hall
      by_cases h0 : s.size = 0
      · have d0 : (s.toList == []) = true := by rw [Dsk.empty_size]; simp [h0]
        have d0' : (s.toList != []) = false := by simp [bne, d0]
        have hr' : Hid (Dsk.isName s = false) := by show _ = _; rw [hr.out]; simp [h0]
        clear h0 hr
        go_wp2
        go_ret
        exact ⟨ret_bool hr'.out.symm, rfl⟩
      · have d0 : (s.toList == []) = false := by rw [Dsk.empty_size]; simp [h0]
        have d0' : (s.toList != []) = true := by simp [bne, d0]
        by_cases h1 : s.size ≤ 30
        · have d1 : decide ((s.size : Int) ≤ 30) = true := by simp; omega
          have hr' : Hid (Dsk.isName s = true) := by show _ = _; rw [hr.out]; simp; omega
          clear hr
          go_wp2
          go_ret
          exact ⟨ret_bool hr'.out.symm, rfl⟩
        · have d1 : decide ((s.size : Int) ≤ 30) = false := by simp; omega
          have hr' : Hid (Dsk.isName s = false) := by show _ = _; rw [hr.out]; simp; omega
          clear hr
          go_wp2
          go_ret
          exact ⟨ret_bool hr'.out.symm, rfl⟩

set_option maxHeartbeats 1000000 in
theorem spend_any (sa : Option Addr) (sn sc : Nat) (oa : Option Addr) (on oc : Nat) (cap fuse : Int) (down : Bool) (w : World) (hf : -1 ≤ fuse) (hf' : fuse ≤ 9223372036854775807) :
    Calls Tryz.prog 110 #[.agg #[.slice sa sn sc, .slice oa on oc, .int .i64 cap, .int .i64 fuse, .bool down]] w fun e w' =>
      e = .returned (.tuple #[.agg #[.slice sa sn sc, .slice oa on oc, .int .i64 cap, .int .i64 (if fuse > 0 then fuse - 1 else fuse), .bool (down || decide (fuse = 0))], .int .i64 (if fuse = 0 then 9 else 0)]) ∧ Below w.heap.size w w' := by
  by_cases h0 : fuse = 0
  · subst h0
    go_enter Tryz.func110, Tryz.ntmps110
    go_wp2
    exact bodyPost_ret (v := .tuple #[.agg #[.slice sa sn sc, .slice oa on oc, .int .i64 cap, .int .i64 0, .bool true], .int .i64 9]) (by simp [results, Tryz.results110, go_sem]) rfl ⟨rfl, Rg.al2 _ _ _⟩
  · have d0 : (fuse == 0) = false := by simp [h0]
    by_cases h1 : 0 < fuse
    · have d1 : decide (0 < fuse) = true := by simp [h1]
      have e1 : Hid ((if fuse > 0 then fuse - 1 else fuse) = fuse - 1) := if_pos h1
      have e2 : Hid ((down || decide (fuse = 0)) = down) := by show _ = _; simp [h0]
      have e3 : Hid ((if fuse = 0 then (9 : Int) else 0) = 0) := if_neg h0
      rw [e1.out, e2.out, e3.out]
      go_enter Tryz.func110, Tryz.ntmps110
      go_wp2
      exact bodyPost_ret (v := .tuple #[.agg #[.slice sa sn sc, .slice oa on oc, .int .i64 cap, .int .i64 (fuse - 1), .bool down], .int .i64 0]) (by simp [results, Tryz.results110, go_sem]) rfl ⟨rfl, Rg.al2 _ _ _⟩
    · have d1 : decide (0 < fuse) = false := by simp; omega
      have e1 : Hid ((if fuse > 0 then fuse - 1 else fuse) = fuse) := if_neg h1
      have e2 : Hid ((down || decide (fuse = 0)) = down) := by show _ = _; simp [h0]
      have e3 : Hid ((if fuse = 0 then (9 : Int) else 0) = 0) := if_neg h0
      rw [e1.out, e2.out, e3.out]
      go_enter Tryz.func110, Tryz.ntmps110
      go_wp2
      exact bodyPost_ret (v := .tuple #[.agg #[.slice sa sn sc, .slice oa on oc, .int .i64 cap, .int .i64 fuse, .bool down], .int .i64 0]) (by simp [results, Tryz.results110, go_sem]) rfl ⟨rfl, Rg.al2 _ _ _⟩
end Go.Proofs.YtmilfamjkiemaaaGreatDoor

namespace Go.Proofs.YtmilfamjkiemaaaGreatDoor
open Go.RowKit

set_option maxHeartbeats 1000000 in
set_option maxRecDepth 100000 in
theorem cmpStr_any (a b : ByteArray) (w : World) :
    Calls Tryz.prog 167 #[.string a, .string b] w fun e w' => e = .returned (.int .i64 (Lib.compareBytes a.data.toList b.data.toList)) ∧ w' = w := by
  go_enter Tryz.func167, Tryz.ntmps167
  go_wp2
  rw [run_callFunc_extern Tryz.func182 (by kernel_rfl) (by kernel_rfl) (by kernel_rfl) (e := Extern.BytealgCompare.compare) (by kernel_rfl), Lib.run_compareString]
  simp only [Result.andThen]
  rw [Oper.upon_value]
  go_wp2
  go_ret
  exact ⟨rfl, rfl⟩

set_option maxHeartbeats 1000000 in
theorem compare_any (a b : ByteArray) (w : World) :
    Calls Tryz.prog 140 #[.string a, .string b] w fun e w' => e = .returned (.int .i64 (Lib.compareBytes a.data.toList b.data.toList)) ∧ w' = w := by
  have H := Rg.hid (cmpStr_any a b)
  go_enter Tryz.func140, Tryz.ntmps140
  go_wp2_with (go_at_call 167; refine (H.out _).mono ?_; rintro e w' ⟨rfl, rfl⟩)
  go_ret
  exact ⟨rfl, rfl⟩

namespace Dsk
/-- how a name stands to another one -/
def cmp (a b : ByteArray) : Int := Lib.compareBytes a.data.toList b.data.toList
theorem cmp_neg (a b : ByteArray) : decide (cmp a b < 0) = lt a b := cmp_lt _ _
theorem cmp_zero (a b : ByteArray) : (cmp a b == 0) = decide (a = b) := by
  have h := cmp_eq a.data.toList b.data.toList
  by_cases e : a = b
  · subst e; have : cmp a a = 0 := h.2 rfl; simp [this]
  · have : ¬ cmp a b = 0 := fun c => e (ba_ext (h.1 c))
    simp [e, this]
/-- is it there? -/
def has (l : List Fl) (n : ByteArray) : Bool := (get l n).isSome
theorem has_pos {l : List Fl} {n : ByteArray} (h : pos l n < l.length) : has l n = decide (l[pos l n].n = n) := by
  unfold has
  rw [get_pos, List.getElem?_eq_getElem h]
  by_cases e : l[pos l n].n = n
  · simp [e]
  · simp [e]
theorem has_end {l : List Fl} {n : ByteArray} (h : ¬ pos l n < l.length) : has l n = false := by
  unfold has
  rw [get_pos, List.getElem?_eq_none (by omega)]; rfl
/-- the search: what lies before u is less, from v on it is not -/
structure Sea (l : List Fl) (n : ByteArray) (u v : Nat) : Prop where
  le : u ≤ v
  ub : v ≤ l.length
  lo : ∀ (k : Nat) (h : k < l.length), k < u → lt l[k].n n = true
  hi : ∀ (k : Nat) (h : k < l.length), v ≤ k → lt l[k].n n = false
theorem Sea.start (l : List Fl) (n : ByteArray) : Sea l n 0 l.length := ⟨Nat.zero_le _, Nat.le_refl _, fun _ _ h => by omega, fun _ _ h => by omega⟩
theorem Sea.up {l : List Fl} {n : ByteArray} {u v h : Nat} (hs : Sea l n u v) (hl : Srt l) (h2 : h < v) (hh : h < l.length) (hx : lt l[h].n n = true) : Sea l n (h + 1) v :=
  ⟨h2, hs.ub, fun k hk h' => by
    rcases Nat.lt_or_ge k h with c | c
    · exact lt_trans (List.pairwise_iff_getElem.1 hl k h hk hh c) hx
    · obtain rfl : k = h := by omega
      exact hx, hs.hi⟩
theorem Sea.down {l : List Fl} {n : ByteArray} {u v h : Nat} (hs : Sea l n u v) (hl : Srt l) (h1 : u ≤ h) (hh : h < l.length) (hx : lt l[h].n n = false) : Sea l n u h :=
  ⟨h1, by omega, hs.lo, fun k hk h' => by
    rcases Nat.lt_or_ge h k with c | c
    · cases e : lt l[k].n n
      · rfl
      · have := lt_trans (List.pairwise_iff_getElem.1 hl h k hh hk c) e; rw [hx] at this; cases this
    · obtain rfl : k = h := by omega
      exact hx⟩
theorem Sea.done {l : List Fl} {n : ByteArray} {u : Nat} (hs : Sea l n u u) : u = pos l n := pos_uniq hs.ub hs.lo (fun h => hs.hi u h (Nat.le_refl _))
end Dsk

set_option maxHeartbeats 1000000 in
theorem byName_any (f d n : ByteArray) (w : World) :
    Calls Tryz.prog 145 #[.agg #[.string f, .string d], .string n] w fun e w' => e = .returned (.int .i64 (Dsk.cmp f n)) ∧ Below w.heap.size w w' := by
  have H : Hid (∀ w, Calls Tryz.prog 140 #[.string f, .string n] w fun e w' => e = .returned (.int .i64 (Dsk.cmp f n)) ∧ w' = w) := compare_any f n
  go_enter Tryz.func145, Tryz.ntmps145
  go_wp2_with (go_at_call 140; refine (H.out _).mono ?_; rintro e w' ⟨rfl, rfl⟩)
  go_ret
  exact ⟨rfl, Rg.al1 _ _⟩

theorem file_at {W : World} {b o : Nat} {n d : ByteArray} (h : Rg.At W b o (fileE.enc ⟨n, d⟩)) : W.cell? ⟨b, o, none⟩ = some (.string n) ∧ W.cell? ⟨b, o + 1, none⟩ = some (.string d) := ⟨h 0 _ rfl, h 1 _ rfl⟩
theorem op_at {W : World} {b o : Nat} {k : Int} {n t d : ByteArray} (h : Rg.At W b o (opE.enc ⟨k, n, t, d⟩)) : W.cell? ⟨b, o, none⟩ = some (.int .i64 k) ∧ W.cell? ⟨b, o + 1, none⟩ = some (.string n) ∧ W.cell? ⟨b, o + 2, none⟩ = some (.string t) ∧ W.cell? ⟨b, o + 3, none⟩ = some (.string d) := ⟨h 0 _ rfl, h 1 _ rfl, h 2 _ rfl, h 3 _ rfl⟩
theorem ret_ib {a a' : Int} {b b' : Bool} (h : a = a') (h2 : b = b') : Ending.returned (.tuple #[.int .i64 a, .bool b]) = .returned (.tuple #[.int .i64 a', .bool b']) := by rw [h, h2]
/-- what the search says -/
def FindPost (l : List Dsk.Fl) (n : ByteArray) (w : World) (e : Ending) (w' : World) : Prop := e = .returned (.tuple #[.int .i64 (Dsk.pos l n), .bool (Dsk.has l n)]) ∧ Below w.heap.size w w'

set_option maxHeartbeats 4000000 in
set_option maxRecDepth 100000 in
theorem search_row (b o c : Nat) (l : List Dsk.Fl) (n : ByteArray) (w : World) (hs : Dsk.Srt l) (hn : l.length ≤ 1000000000) (hb : b < w.heap.size) (hrow : Rg.At w b o (fileE.flat l)) :
    Calls Tryz.prog 114 #[.slice (some ⟨b, o, none⟩) l.length c, .string n, .func (.func 145) #[] #[]] w fun e w' => FindPost l n w e w' := by
  have hs' := Rg.hid hs
  have hrow' := Rg.hid hrow
  obtain ⟨N, hN⟩ : ∃ N, N = l.length := ⟨_, rfl⟩
  have hN1 : N ≤ 1000000000 := by omega
  have hst : Hid (Dsk.Sea l n 0 N) := by rw [hN]; exact Dsk.Sea.start l n
  rw [← hN]
  replace hN := Rg.hid hN
  clear hs hn hrow
  go_enter Tryz.func114, Tryz.ntmps114
  go_wp2
  go_loopw [9, 10] (fun vi vj wr => ∃ (i j : Nat), i ≤ j ∧ j ≤ N ∧ Hid (Dsk.Sea l n i j) ∧ vi = .int .i64 i ∧ vj = .int .i64 j ∧ Below w.heap.size w wr) (fun vi vj _ => (intOf vj).toNat - (intOf vi).toNat)
  case atStart => exact ⟨0, N, Nat.zero_le _, Nat.le_refl _, hst, rfl, rfl, Below.refl _ _⟩
  case round =>
    obtain ⟨i, j, hij, hjb, hsea, rfl, rfl, hbw⟩ := hrel
    by_cases hlt : i < j
    · obtain ⟨h, hh⟩ : ∃ h : Nat, h = (i + j) / 2 := ⟨_, rfl⟩
      have e1 : ((i : Int) + (j : Int)) / 2 = (h : Int) := by omega
      have hm1 : i ≤ h := by omega
      have hm2 : h < j := by omega
      have hl : h < l.length := by rw [← hN.out]; omega
      have hup : Hid (Dsk.lt l[h].n n = true → Dsk.Sea l n (h + 1) j) := fun hx => hsea.out.up hs'.out hm2 hl hx
      have hdn : Hid (Dsk.lt l[h].n n = false → Dsk.Sea l n i h) := fun hx => hsea.out.down hs'.out hm1 hl hx
      have at1 : Rg.At wr b (o + h * 2) (fileE.enc l[h]) := (hrow'.out.elem hl).below hbw hb
      have hcn := Dsk.cmp_neg l[h].n n
      generalize Dsk.lt l[h].n n = lv at *
      generalize l[h] = x at *
      obtain ⟨xn, xd⟩ := x
      obtain ⟨c0, c1⟩ := file_at at1
      have HC : Hid (∀ W, Below w.heap.size w W → Calls Tryz.prog 145 #[.agg #[.string xn, .string xd], .string n] W fun e w' => e = .returned (.int .i64 (Dsk.cmp xn n)) ∧ Below w.heap.size w w') := fun W hW => (byName_any xn xd n W).mono fun e w' ⟨h1, h2⟩ => ⟨h1, Rg.chain hW h2⟩
      dsimp only at hcn
      generalize Dsk.cmp xn n = cv at *
      have hz0 : (0 : Int) ≤ (h : Int) := by omega
      have hz1 : (h : Int) < (N : Int) := by omega
      clear hh hl at1
      cases lv
      · go_wp2_with (go_at_call 145; refine (HC.out _ hbw).mono ?_; rintro e w' ⟨rfl, hb'⟩)
        go_roundw
        case rel => exact ⟨i, h, hm1, by omega, hdn.out (by first | rfl | trivial), rfl, rfl, hb'⟩
        case measure => simp [intOf]; omega
      · go_wp2_with (go_at_call 145; refine (HC.out _ hbw).mono ?_; rintro e w' ⟨rfl, hb'⟩)
        go_roundw
        case rel => exact ⟨h + 1, j, hm2, hjb, hup.out (by first | rfl | trivial), by go_num, rfl, hb'⟩
        case measure => simp [intOf]; omega
    · obtain rfl : i = j := by omega
      have hp := Rg.hid hsea.out.done
      by_cases hi : i < N
      · have hl : i < l.length := by rw [← hN.out]; exact hi
        have at1 : Rg.At wr b (o + i * 2) (fileE.enc l[i]) := (hrow'.out.elem hl).below hbw hb
        have hh : Hid (Dsk.has l n = (Dsk.cmp l[i].n n == 0)) := by
          show _ = _
          have hp' := hp.out
          subst hp'
          rw [Dsk.cmp_zero, Dsk.has_pos hl]
        generalize l[i] = x at *
        obtain ⟨xn, xd⟩ := x
        obtain ⟨c0, c1⟩ := file_at at1
        have HC : Hid (∀ W, Below w.heap.size w W → Calls Tryz.prog 145 #[.agg #[.string xn, .string xd], .string n] W fun e w' => e = .returned (.int .i64 (Dsk.cmp xn n)) ∧ Below w.heap.size w w') := fun W hW => (byName_any xn xd n W).mono fun e w' ⟨h1, h2⟩ => ⟨h1, Rg.chain hW h2⟩
        dsimp only at hh
        have hz0 : (0 : Int) ≤ (i : Int) := by omega
        have hz1 : (i : Int) < (N : Int) := by omega
        have dlt : decide ((i : Int) < (N : Int)) = true := by simp; omega
        have dlt' : decide (i < N) = true := by simp; omega
        clear at1 hl
        go_wp2_with (go_at_call 145; refine (HC.out _ hbw).mono ?_; rintro e w' ⟨rfl, hb'⟩)
        go_ret2
        exact ⟨ret_ib (by rw [← hp.out]) hh.out.symm, hb'⟩
      · have hh : Hid (Dsk.has l n = false) := by
          show _ = _
          exact Dsk.has_end (by rw [← hp.out, ← hN.out]; exact hi)
        have dlt : decide ((i : Int) < (N : Int)) = false := by simp; omega
        have dlt' : decide (i < N) = false := by simp; omega
        go_wp2
        go_ret2
        exact ⟨ret_ib (by rw [← hp.out]) hh.out.symm, hbw⟩

set_option maxHeartbeats 1000000 in
theorem search_none (c : Nat) (n : ByteArray) (w : World) :
    Calls Tryz.prog 114 #[.slice none 0 c, .string n, .func (.func 145) #[] #[]] w fun e w' => FindPost [] n w e w' := by
  go_enter Tryz.func114, Tryz.ntmps114
  go_wp2
  go_loopw [9, 10] (fun vi vj wr => vi = .int .i64 0 ∧ vj = .int .i64 0 ∧ wr = w) (fun _ _ _ => 0)
  case atStart => exact ⟨rfl, rfl, rfl⟩
  case round =>
    obtain ⟨rfl, rfl, rfl⟩ := hrel
    go_wp2
    go_ret2
    exact ⟨rfl, Below.refl _ _⟩

set_option maxHeartbeats 1000000 in
theorem find_any (a : Option Addr) (c : Nat) (l : List Dsk.Fl) (n : ByteArray) (w : World) (hs : Dsk.Srt l) (hn : l.length ≤ 1000000000) (hrow : fileE.Row w a l) :
    Calls Tryz.prog 121 #[.slice a l.length c, .string n] w fun e w' => FindPost l n w e w' := by
  have H : Hid (Calls Tryz.prog 114 #[.slice a l.length c, .string n, .func (.func 145) #[] #[]] w fun e w' => FindPost l n w e w') := by
    rcases hrow with ⟨rfl, rfl⟩ | ⟨b, o, rfl, hb, hr⟩
    · exact search_none c n w
    · exact search_row b o c l n w hs hn hb hr
  generalize l.length = N at *
  clear hs hrow
  go_enter Tryz.func121, Tryz.ntmps121
  go_wp2_with (go_at_call 114; refine H.out.mono ?_; rintro e w' ⟨rfl, hb⟩)
  go_ret2
  exact ⟨rfl, hb⟩
end Go.Proofs.YtmilfamjkiemaaaGreatDoor
