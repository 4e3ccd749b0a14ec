/-
  A row of one's own before and behind the library's sort. No program in it. slices.SortFunc at jobs with their bytes: the library's contract laid at this program. Layers 18, 19: jobs in memory, ordered by the library's sort. Layer 18: mathematics: what the calls leave. No walk in it. Layer 18: mathematics: the room that Queue asks for; what Queue, Done, Fail leave. No walk in it.
-/
import Derived.Test.YtmilfamjkiemaaaGreatDoorSzAF
import Derived.Shelf.SlSortCmp.NoneTotal
import Derived.Test.YtmilfamjkiemaaaGreatDoorProg
import Derived.Test.YtmilfamjkiemaaaGreatDoorSzAG
import Derived.Test.YtmilfamjkiemaaaGreatDoorSzAS
namespace Go.Proofs.YtmilfamjkiemaaaGreatDoor
namespace Rg
open Go.RowKit Go.Sort
theorem El.flat_lt {α : Type} {E : El α} {l : List α} {j : Nat} (h : j < l.length * E.m) : j / E.m < l.length := (Nat.div_lt_iff_lt_mul E.pos).2 h
variable {α : Type} [Inhabited α] {E : El α}
theorem El.flat_k (l : List α) (j : Nat) (h : j < l.length * E.m) : (E.flat l)[j]? = some ((E.enc l[j / E.m]!)[j % E.m]!) := by
  have hi := El.flat_lt (E := E) h
  have ht : j % E.m < E.m := Nat.mod_lt _ E.pos
  have e := El.flat_get E hi ht []
  rw [List.append_nil, Nat.mul_comm, Nat.div_add_mod] at e
  rw [e]
  have hl : j % E.m < (E.enc l[j / E.m]).length := by rw [E.hm]; exact ht
  rw [List.getElem?_eq_getElem hl, getElem!_pos l (j / E.m) hi, getElem!_pos (E.enc l[j / E.m]) (j % E.m) hl]
theorem El.Own.holds {base g cap : Nat} {W : World} {l : List α} {rest : List Value} (h : E.Own base W g cap l rest) : HoldsK E.enc E.m W g 0 l.toArray := by
  intro j hj
  rw [size_flatK] at hj
  have hj' : j < l.length * E.m := by simpa using hj
  rw [get_flatK _ _ _ _ hj]
  refine ⟨?_, h.thaw _⟩
  rw [h.cell, Nat.zero_add, List.getElem?_append_left (by rw [El.flat_length]; exact hj'), El.flat_k l j hj']
  simp
theorem At.of {W : World} {g : Nat} {l : List α} (h : HoldsK E.enc E.m W g 0 l.toArray) : At W g 0 (E.flat l) := by
  intro t u hu
  have ht : t < l.length * E.m := by
    rcases Nat.lt_or_ge t (E.flat l).length with c | c
    · rwa [El.flat_length] at c
    · rw [List.getElem?_eq_none c] at hu; cases hu
  have hs : t < (flatK E.enc E.m l.toArray).size := by rw [size_flatK]; simpa using ht
  have := (h t hs).1
  rw [get_flatK _ _ _ _ (by simpa using ht)] at this
  rw [this]
  rw [El.flat_k l t ht] at hu
  rw [← hu]; simp
theorem sorted_row {base g cap n : Nat} {W : World} {l l' : List α} {rest : List Value} {os : Array Obj} (h : E.Own base W g cap l rest) (hl : l'.length = l.length) : E.Row (sortWorldK E.enc E.m W g 0 n l'.toArray os) (Option.some ⟨g, 0, none⟩) l' := by
  have h1 := holdsK_putRowK (enc := E.enc) (k := E.m) (Sort.ahead W n) g 0 l.toArray l'.toArray h.holds (by simp [hl])
  have hg : g < (putRowK E.enc E.m (Sort.ahead W n) g 0 l'.toArray).heap.size := by
    show g < (putRow id (Sort.ahead W n) g 0 _).heap.size
    rw [size_putRow]; exact h.lt
  have h2 := holdsK_grow (enc := E.enc) (k := E.m) _ os g 0 l'.toArray hg h1
  refine .inr ⟨g, 0, rfl, ?_, At.of h2⟩
  exact Nat.lt_of_lt_of_le hg (by unfold sortWorldK grow; simp)
theorem sorted_below {base g cap n : Nat} {W : World} {l l' : List α} {rest : List Value} {os : Array Obj} (h : E.Own base W g cap l rest) : Below base W (sortWorldK E.enc E.m W g 0 n l'.toArray os) := by
  have hb := h.new
  refine ⟨rfl, rfl, rfl, ?_, fun k hk => ?_⟩
  · show W.heap.size ≤ ((putRow id (Sort.ahead W n) g 0 _).heap ++ os).size
    rw [Array.size_append, size_putRow]; exact Nat.le_add_right _ _
  · have hkg := h.lt
    have hkw : k < W.heap.size := by omega
    show ((putRow id (Sort.ahead W n) g 0 _).heap ++ os)[k]? = _
    rw [Array.getElem?_append_left (by rw [size_putRow]; exact hkw)]
    unfold putRow mapBlock
    show (W.heap.modify g _)[k]? = _
    rw [Array.getElem?_modify, if_neg (by omega)]
end Rg
end Go.Proofs.YtmilfamjkiemaaaGreatDoor

namespace Go.Proofs.YtmilfamjkiemaaaGreatDoor
def sl_ren : Go.Shelf.Ren := ⟨fun | 6 => 96 | 14 => 128 | 15 => 129 | 20 => 148 | 21 => 149 | 22 => 150 | 23 => 151 | 24 => 152 | 25 => 153 | 26 => 154 | 27 => 155 | 28 => 156 | 29 => 157 | 46 => 170 | 47 => 171 | 48 => 172 | 49 => 173 | 50 => 174 | 57 => 186 | n => n, fun | 0 => 0 | 3 => 3 | 4 => 4 | 5 => 5 | 9 => 9 | 22 => 49 | 24 => 42 | 25 => 113 | 39 => 141 | 45 => 151 | 46 => 152 | 50 => 127 | 53 => 158 | 55 => 55 | 66 => 167 | 70 => 171 | 76 => 179 | 77 => 180 | n => n, fun | n => n⟩
theorem slLays : Go.Proofs.SlLaysF0.n6 Tryz.prog sl_ren := {
  mixed := by kernel_rfl
  f6 := ⟨Tryz.f96.name, by decide, Tryz.func96.trans (congrArg some (by kernel_rfl))⟩
  f14 := ⟨Tryz.f128.name, by decide, Tryz.func128.trans (congrArg some (by kernel_rfl))⟩
  f15 := Tryz.func129.trans (congrArg some (by kernel_rfl))
  f20 := ⟨Tryz.f148.name, by decide, Tryz.func148.trans (congrArg some (by kernel_rfl))⟩
  f21 := ⟨Tryz.f149.name, by decide, Tryz.func149.trans (congrArg some (by kernel_rfl))⟩
  f22 := ⟨Tryz.f150.name, by decide, Tryz.func150.trans (congrArg some (by kernel_rfl))⟩
  f23 := ⟨Tryz.f151.name, by decide, Tryz.func151.trans (congrArg some (by kernel_rfl))⟩
  f24 := ⟨Tryz.f152.name, by decide, Tryz.func152.trans (congrArg some (by kernel_rfl))⟩
  f25 := ⟨Tryz.f153.name, by decide, Tryz.func153.trans (congrArg some (by kernel_rfl))⟩
  f26 := ⟨Tryz.f154.name, by decide, Tryz.func154.trans (congrArg some (by kernel_rfl))⟩
  f27 := ⟨Tryz.f155.name, by decide, Tryz.func155.trans (congrArg some (by kernel_rfl))⟩
  f28 := Tryz.func156.trans (congrArg some (by kernel_rfl))
  f29 := Tryz.func157.trans (congrArg some (by kernel_rfl))
  f46 := ⟨Tryz.f170.name, by decide, Tryz.func170.trans (congrArg some (by kernel_rfl))⟩
  f47 := Tryz.func171.trans (congrArg some (by kernel_rfl))
  f48 := Tryz.func172.trans (congrArg some (by kernel_rfl))
  f49 := ⟨Tryz.f173.name, by decide, Tryz.func173.trans (congrArg some (by kernel_rfl))⟩
  f50 := ⟨Tryz.f174.name, by decide, Tryz.func174.trans (congrArg some (by kernel_rfl))⟩
  f57 := ⟨Tryz.f186.name, by decide, Tryz.func186.trans (congrArg some (by kernel_rfl))⟩
  t0 := Tryz.underlying0
  a0 := Tryz.isAgg0
  z0 := Tryz.sizeOf0
  v0 := Tryz.zeroValue0
  t3 := Tryz.underlying3
  a3 := Tryz.isAgg3
  z3 := Tryz.sizeOf3
  v3 := Tryz.zeroValue3
  t4 := Tryz.underlying4
  a4 := Tryz.isAgg4
  z4 := Tryz.sizeOf4
  v4 := Tryz.zeroValue4
  t5 := Tryz.underlying5
  a5 := Tryz.isAgg5
  z5 := Tryz.sizeOf5
  v5 := Tryz.zeroValue5
  t9 := Tryz.underlying9
  a9 := Tryz.isAgg9
  z9 := Tryz.sizeOf9
  v9 := Tryz.zeroValue9
  t22 := Tryz.underlying49
  a22 := Tryz.isAgg49
  z22 := Tryz.sizeOf49
  v22 := Tryz.zeroValue49
  t25 := Tryz.underlying113
  a25 := Tryz.isAgg113
  z25 := Tryz.sizeOf113
  v25 := Tryz.zeroValue113
  t39 := Tryz.underlying141
  a39 := Tryz.isAgg141
  z39 := Tryz.sizeOf141
  v39 := Tryz.zeroValue141
  t45 := Tryz.underlying151
  a45 := Tryz.isAgg151
  z45 := Tryz.sizeOf151
  v45 := Tryz.zeroValue151
  t46 := Tryz.underlying152
  a46 := Tryz.isAgg152
  z46 := Tryz.sizeOf152
  v46 := Tryz.zeroValue152
  t50 := Tryz.underlying127
  a50 := Tryz.isAgg127
  z50 := Tryz.sizeOf127
  v50 := Tryz.zeroValue127
  t53 := Tryz.underlying158
  a53 := Tryz.isAgg158
  z53 := Tryz.sizeOf158
  v53 := Tryz.zeroValue158
  t55 := Tryz.underlying55
  a55 := Tryz.isAgg55
  z55 := Tryz.sizeOf55
  v55 := Tryz.zeroValue55
  t66 := Tryz.underlying167
  a66 := Tryz.isAgg167
  z66 := Tryz.sizeOf167
  v66 := Tryz.zeroValue167
  t70 := Tryz.underlying171
  a70 := Tryz.isAgg171
  z70 := Tryz.sizeOf171
  v70 := Tryz.zeroValue171
  t76 := Tryz.underlying179
  a76 := Tryz.isAgg179
  z76 := Tryz.sizeOf179
  v76 := Tryz.zeroValue179
  t77 := Tryz.underlying180
  a77 := Tryz.isAgg180
  z77 := Tryz.sizeOf180
  v77 := Tryz.zeroValue180
}
end Go.Proofs.YtmilfamjkiemaaaGreatDoor

namespace Go.Proofs.YtmilfamjkiemaaaGreatDoor
open Go.RowKit
/-- a row of one's own, ordered -/
def SortPost (base g : Nat) (w : World) (L : List Spl.Hd) (e : Ending) (w' : World) : Prop := e = .returned (.tuple #[]) ∧ ∃ L' : List Spl.Hd, L'.Perm L ∧ (L'.Pairwise fun a b => Spl.ltb b a = false) ∧ heldE.Row w' (some ⟨g, 0, none⟩) L' ∧ Below base w w'
theorem ltb_of : Go.Proofs.ltOf Spl.cf = Spl.ltb := rfl
theorem hlays (g : Nat) (hg : ∀ (a b : Spl.Hd) (w : World), Calls Tryz.prog g #[.agg (hc a).toArray, .agg (hc b).toArray] w fun e w' => ByPost a b w e w') (blk off n : Nat) (w : World) : Go.Proofs.CmpLays Tryz.prog g #[] hc 10 Spl.cf blk off n w :=
  fun _ _ _ _ x y => hg x y _
theorem sort_own (f : Nat) (eg : ∀ args w, (callFunc f args).run Tryz.prog w = .ok (.enter f args) w) (hg : ∀ (a b : Spl.Hd) (w : World), Calls Tryz.prog f #[.agg (hc a).toArray, .agg (hc b).toArray] w fun e w' => ByPost a b w e w')
    (base g cap : Nat) (L : List Spl.Hd) (rest : List Value) (w : World) (hn : L.length ≤ 1000000000) (h : heldE.Own base w g cap L rest) :
    Calls Tryz.prog 96 #[.slice (some ⟨g, 0, none⟩) L.length cap, .func (.func f) #[] #[]] w fun e w' => SortPost base g w L e w' := by
  have := AnyQ.slices_SortFunc slLays 10 Tryz.isAgg42 Tryz.sizeOf42 hc (fun _ => rfl) heldE.one Spl.cf Spl.ltb_swo f #[] g 0 cap L.toArray w eg (hlays f hg g 0 L.toArray.size w) h.holds h.lt (by simp; omega)
  refine this.mono fun e w' ⟨h1, d', n, os, h2, h3, h4⟩ => ⟨h1, d'.toList, ?_, ?_, ?_, ?_⟩
  · have := h2.2.2
    have hs : d'.size = L.length := by have := h2.1; simpa using this
    have e1 : (d'.extract 0 L.toArray.size).toList = d'.toList := by rw [List.size_toArray, ← hs]; simp
    have e2 : (L.toArray.extract 0 L.toArray.size).toList = L := by simp
    rwa [e1, e2] at this
  · rw [List.pairwise_iff_getElem]
    intro i j hi hj hij
    have hs : d'.size = L.length := by have := h2.1; simpa using this
    have hi' : i < d'.size := by simpa using hi
    have hj' : j < d'.size := by simpa using hj
    have := h3 i j (Nat.zero_le _) hij (by simp; omega)
    rw [ltb_of, getElem!_pos d' i hi', getElem!_pos d' j hj'] at this
    simpa using this
  · rw [h4]
    exact Rg.sorted_row (E := heldE) (l' := d'.toList) h (by have := h2.1; simpa using this)
  · rw [h4]
    exact Rg.sorted_below (E := heldE) (l' := d'.toList) h
theorem sort_none (fv : Value) (p : Option Addr) (cap : Nat) (w : World) : Calls Tryz.prog 96 #[.slice p 0 cap, fv] w fun e w' => e = .returned (.tuple #[]) ∧ w' = w := AnyF.slices_SortFunc_none slLays p cap fv w
end Go.Proofs.YtmilfamjkiemaaaGreatDoor

namespace Go.Proofs.YtmilfamjkiemaaaGreatDoor
namespace Spl
open Dsk

/-- operations one behind the other; then Sync -/
def run (d : Dk) : List Dop → Dk × Int
  | [] => sync d
  | o :: l => if (operate d o).2 = 0 then run (operate d o).1 l else operate d o
/-- what they leave: all, safe; or a beginning, and no power -/
structure Down (d : Dk) (l : List Dop) (r : Dk × Int) : Prop where
  fuse : 0 ≤ d.fuse
  ex : ∃ i, i ≤ l.length ∧ r = (⟨d.safe, d.ops ++ l.take i, d.cap, 0, true⟩, 9)
structure Safe (d : Dk) (l : List Dop) (r : Dk × Int) : Prop where
  ex : ∃ f, -1 ≤ f ∧ f ≤ 9223372036854775807 ∧ (d.fuse = -1 → f = -1) ∧ r = (⟨behind d.safe (d.ops ++ l), [], d.cap, f, false⟩, 0)
theorem burn_fuse (d : Dk) (h1 : -1 ≤ d.fuse) (h2 : d.fuse ≤ 9223372036854775807) : -1 ≤ (burn d).fuse ∧ (burn d).fuse ≤ 9223372036854775807 ∧ (d.fuse = -1 → (burn d).fuse = -1) ∧ (0 ≤ (burn d).fuse → 0 ≤ d.fuse) := by
  rw [burn_eq]
  dsimp only
  split <;> omega
theorem run_cases : ∀ (l : List Dop) (d : Dk), d.down = false → -1 ≤ d.fuse → d.fuse ≤ 9223372036854775807 → Down d l (run d l) ∨ Safe d l (run d l)
  | [], d, hd, hf, hf' => by
    rw [run]
    rcases sync_cases d with ⟨h, _⟩ | ⟨_, h2, e⟩ | ⟨_, h2, e⟩
    · rw [hd] at h; cases h
    · refine .inl ⟨by omega, 0, Nat.le_refl _, ?_⟩
      rw [e]; obtain ⟨s, o, c, f, w⟩ := d; dsimp only at h2; subst h2; simp
    · obtain ⟨h3, h4, h5, _⟩ := burn_fuse d hf hf'
      refine .inr ⟨(burn d).fuse, h3, h4, h5, ?_⟩
      rw [e]
      unfold Dsk.settle
      rw [burn_safe, burn_ops, burn_cap, burn_down, hd, List.take_length, List.append_nil]
  | o :: l, d, hd, hf, hf' => by
    rw [run]
    rcases operate_cases d o with ⟨h2, e⟩ | ⟨h2, e⟩
    · rw [e]
      refine .inl ⟨by omega, 0, Nat.zero_le _, ?_⟩
      rw [if_neg (by simp)]
      obtain ⟨s, o, c, f, w⟩ := d; dsimp only at h2; subst h2; simp
    · rw [e, if_pos rfl]
      obtain ⟨h3, h4, h5, h6⟩ := burn_fuse d hf hf'
      rcases run_cases l (note (burn d) o) (by show (burn d).down = false; rw [burn_down]; exact hd) h3 h4 with ⟨q1, i, q2, q3⟩ | ⟨f, q1, q2, q3, q4⟩
      · refine .inl ⟨h6 q1, i + 1, by simp; omega, ?_⟩
        rw [q3]
        show (Dk.mk (burn d).safe ((burn d).ops ++ [o] ++ l.take i) (burn d).cap 0 true, (9 : Int)) = _
        rw [burn_safe, burn_ops, burn_cap]
        simp
      · refine .inr ⟨f, q1, q2, fun c => q3 (h5 c), ?_⟩
        rw [q4]
        show (Dk.mk (behind (burn d).safe ((burn d).ops ++ [o] ++ l)) [] (burn d).cap f false, (0 : Int)) = _
        rw [burn_safe, burn_ops, burn_cap]
        simp

/-- names that may be -/
theorem fn_val {k : Int} {s : ByteArray} {g n : Int} (hk : Nam.fk k = true) (hs : Nam.system s.data.toList = true) (hm : Nam.may g n = true) : (fn k s g n).data.toList = Nam.fileT k s.data.toList g n := by
  unfold fn Nam.file
  rw [if_neg (by simp [hk]), if_neg (by simp [hs]), if_neg (by simp [hm]), ba_list]
theorem fn_bad {k : Int} {s : ByteArray} {g n : Int} (h : ¬ (Nam.fk k = true ∧ Nam.system s.data.toList = true ∧ Nam.may g n = true)) : fn k s g n = ⟨#[]⟩ := by
  unfold fn Nam.file
  cases h1 : Nam.fk k
  · rfl
  · cases h2 : Nam.system s.data.toList
    · rfl
    · cases h3 : Nam.may g n
      · rfl
      · exact absurd ⟨h1, h2, h3⟩ h
theorem fn_pfile {k : Int} {s : ByteArray} {g n : Int} (hk : Nam.fk k = true) (hs : Nam.system s.data.toList = true) (hm : Nam.may g n = true) : Nam.pfile (fn k s g n).data.toList = (k, s.data.toList, g, n, 0) := by
  rw [fn_val hk hs hm]; exact Nam.pfile_file hk hs hm
/-- two files of one name are of one job and kind, or there is no such name -/
theorem fn_one {k k' : Int} {s s' : ByteArray} {g n g' n' : Int} (h : fn k s g n = fn k' s' g' n') : (k = k' ∧ s = s' ∧ g = g' ∧ n = n') ∨ fn k s g n = ⟨#[]⟩ := by
  by_cases v : Nam.fk k = true ∧ Nam.system s.data.toList = true ∧ Nam.may g n = true
  · by_cases v' : Nam.fk k' = true ∧ Nam.system s'.data.toList = true ∧ Nam.may g' n' = true
    · have e1 := fn_pfile v.1 v.2.1 v.2.2
      have e2 := fn_pfile v'.1 v'.2.1 v'.2.2
      rw [h, e2] at e1
      injection e1 with e1 e3
      injection e3 with e3 e4
      injection e4 with e4 e5
      injection e5 with e5 _
      exact .inl ⟨e1.symm, (ba_ext e3).symm, e4.symm, e5.symm⟩
    · exact .inr (by rw [h]; exact fn_bad v')
  · exact .inr (fn_bad v)
theorem fn_num (k : Int) (s : ByteArray) (g n : Int) : fn k s g n ≠ numF := by
  intro h
  by_cases v : Nam.fk k = true ∧ Nam.system s.data.toList = true ∧ Nam.may g n = true
  · have := fn_val v.1 v.2.1 v.2.2
    rw [h] at this
    simp [numF, Nam.fileT, Nam.sysT] at this
  · rw [fn_bad v] at h; cases h
set_option maxRecDepth 100000 in
theorem fn_isName {k : Int} {s : ByteArray} {g n : Int} (hk : Nam.fk k = true) (hs : Nam.system s.data.toList = true) (hm : Nam.may g n = true) : isName (fn k s g n) = true := by
  have e := fn_val hk hs hm
  have hl := Nam.fileT_len (k := k) hs hm
  have hsz : (fn k s g n).size = (Nam.fileT k s.data.toList g n).length := by rw [← e, Oct.len_eq]
  unfold isName
  rw [hsz]
  have h1 : 1 ≤ (Nam.fileT k s.data.toList g n).length := by
    show 1 ≤ ((Nam.byteOf k :: 46 :: s.data.toList) ++ 46 :: Nam.idT g n).length
    rw [List.length_append, List.length_cons]; omega
  simp only [Bool.and_eq_true, decide_eq_true_eq]
  refine ⟨?_, h1, by omega⟩
  rw [e, List.all_eq_true]
  have hokc : ∀ c : UInt8, Nam.okc c = true → Dsk.okc c = true := Oct.all_of_fin (by decide)
  have hdec : ∀ c ∈ Lib.itoa n, Dsk.okc c = true := by
    intro c hc
    have h0 := (Nam.may_iff.1 hm).2.1
    unfold Lib.itoa at hc
    rw [if_neg (by omega)] at hc
    have := List.all_eq_true.1 (Oct.dec_facts n.toNat).2.1 c hc
    have key : ∀ c : UInt8, Oct.isDig c = true → Dsk.okc c = true := Oct.all_of_fin (by decide)
    exact key c this
  intro c hc
  unfold Nam.fileT Nam.sysT Nam.idT at hc
  simp only [List.cons_append, List.mem_cons, List.mem_append] at hc
  rcases hc with rfl | rfl | hc | rfl | rfl | hc
  · have hb := Nam.byteOf_toNat (g := k) (by have := Nam.fk_bd hk; omega) (by have := Nam.fk_bd hk; omega)
    have := Nam.fk_bd hk
    unfold Dsk.okc; simp; omega
  · decide
  · have hs' := hs
    unfold Nam.system at hs'
    simp only [Bool.and_eq_true] at hs'
    exact hokc c (List.all_eq_true.1 hs'.2 c hc)
  · decide
  · have hg := Nam.grade_bd (Nam.may_iff.1 hm).1
    have hb := Nam.byteOf_toNat (g := g) (by omega) (by omega)
    have hne : (Nam.byteOf g).toNat ≠ 47 := by omega
    unfold Dsk.okc; simp; omega
  · exact hdec c hc
end Spl
end Go.Proofs.YtmilfamjkiemaaaGreatDoor

namespace Go.Proofs.YtmilfamjkiemaaaGreatDoor
namespace Spl
open Dsk

/-- a disk of names that may be -/
structure Cl (d : Dk) : Prop where
  srt : Srt d.safe
  ne : ∀ f ∈ d.safe, f.n ≠ ⟨#[]⟩
  op : ∀ o ∈ d.ops, o.n ≠ ⟨#[]⟩ ∧ (o.k = 3 → o.t ≠ ⟨#[]⟩)
theorem put_ne {l : List Fl} {f : Fl} (h : ∀ x ∈ l, x.n ≠ ⟨#[]⟩) (hf : f.n ≠ ⟨#[]⟩) : ∀ x ∈ put l f, x.n ≠ ⟨#[]⟩ := fun x hx => by
  rcases put_mem hx with e | e
  · rw [e]; exact hf
  · exact h x e
theorem cut_ne {l : List Fl} {n : ByteArray} (h : ∀ x ∈ l, x.n ≠ ⟨#[]⟩) : ∀ x ∈ cut l n, x.n ≠ ⟨#[]⟩ := fun x hx => h x (cut_mem hx)
theorem after_ne {l : List Fl} {o : Dop} (h : ∀ x ∈ l, x.n ≠ ⟨#[]⟩) (ho : o.n ≠ ⟨#[]⟩ ∧ (o.k = 3 → o.t ≠ ⟨#[]⟩)) : ∀ x ∈ after l o, x.n ≠ ⟨#[]⟩ := by
  unfold after
  split
  · exact put_ne h ho.1
  · split
    · exact put_ne h ho.1
    · split
      · next k =>
        split
        · exact h
        · split
          · exact h
          · exact put_ne (cut_ne h) (ho.2 k)
      · split
        · exact cut_ne h
        · exact h
theorem behind_ne : ∀ {l : List Fl} (ops : List Dop), (∀ x ∈ l, x.n ≠ ⟨#[]⟩) → (∀ o ∈ ops, o.n ≠ ⟨#[]⟩ ∧ (o.k = 3 → o.t ≠ ⟨#[]⟩)) → ∀ x ∈ behind l ops, x.n ≠ ⟨#[]⟩
  | _, [], h, _ => h
  | l, o :: ops, h, ho => behind_ne (l := after l o) ops (after_ne h (ho o (List.mem_cons_self ..))) (fun x hx => ho x (List.mem_cons_of_mem _ hx))
theorem get_ne {l : List Fl} (h : ∀ x ∈ l, x.n ≠ ⟨#[]⟩) : get l ⟨#[]⟩ = none := by
  cases e : get l ⟨#[]⟩ with
  | none => rfl
  | some x =>
    obtain ⟨hp, hn, _⟩ := get_some_iff.1 e
    exact absurd hn (h _ (List.getElem_mem hp))
theorem Cl.files {d : Dk} (h : Cl d) : Srt (files d) ∧ ∀ x ∈ files d, x.n ≠ ⟨#[]⟩ := by
  unfold Dsk.files
  split
  · exact ⟨List.Pairwise.nil, fun x hx => by cases hx⟩
  · exact ⟨behind_srt _ h.srt, behind_ne _ h.ne h.op⟩

theorem write_op {d : Dk} {n x : ByteArray} (hd : d.down = false) (hn : isName n = true) (hu : (used (files d) + x.size + 16 : Int) ≤ d.cap) : write d n x = operate d ⟨1, n, ⟨#[]⟩, x⟩ := by
  unfold write fill
  rw [if_neg (by rw [hd]; simp), if_pos hn]
  have e : files (note d ⟨1, n, ByteArray.empty, x⟩) = put (files d) ⟨n, x⟩ := by
    unfold Dsk.files
    rw [show (note d ⟨1, n, ByteArray.empty, x⟩).down = d.down from rfl, hd]
    show behind d.safe (d.ops ++ [_]) = _
    rw [behind_snoc]; rfl
  have h1 := used_put (files d) ⟨n, x⟩
  dsimp only at h1
  rw [if_neg (by rw [e]; omega)]
  rfl
theorem files_note {d : Dk} (hd : d.down = false) (o : Dop) : files (note (burn d) o) = after (files d) o := by
  unfold Dsk.files
  rw [show (note (burn d) o).down = (burn d).down from rfl, burn_down, hd]
  show behind (burn d).safe ((burn d).ops ++ [_]) = _
  rw [burn_safe, burn_ops, behind_snoc]; rfl
/-- what Queue does -/
def opsQ (s : ByteArray) (j : Job.Jb) (t x : ByteArray) : List Dop :=
  ⟨1, numF, ⟨#[]⟩, ba (Lib.itoa (j.n + 1))⟩ :: ((if j.k = 3 then [] else [⟨1, fn 68 s j.g j.n, ⟨#[]⟩, x⟩]) ++ [⟨1, fn 67 s j.g j.n, ⟨#[]⟩, t⟩])
theorem ba_size (l : List UInt8) : (ba l).size = l.length := by rw [← Oct.len_eq, ba_list]
theorem itoa6 {n : Int} (h0 : 1 ≤ n) (h1 : n ≤ 99999) : (Lib.itoa (n + 1)).length ≤ 6 := by
  unfold Lib.itoa; rw [if_neg (by omega), Lib.decDigits_length]
  exact Nam.nDigits_le 5 (n + 1).toNat (by have : 10 ^ (5 + 1) = 1000000 := rfl; omega)
/-- the room is enough: each of the writes is an operation -/
theorem lay_run {d : Dk} {s : ByteArray} {j : Job.Jb} {t x : ByteArray} (hd : d.down = false) (hs : Nam.system s.data.toList = true) (hm : Nam.may j.g j.n = true) (hu : (used (files d) + x.size + t.size + 60 : Int) ≤ d.cap) :
    lay d s j t x = run d (opsQ s j t x) := by
  obtain ⟨_, hm1, hm2⟩ := Nam.may_iff.1 hm
  have h6 := itoa6 hm1 hm2
  have hN : (ba (Lib.itoa (j.n + 1))).size ≤ 6 := by rw [ba_size]; exact h6
  have e1 := write_op (n := numF) (x := ba (Lib.itoa (j.n + 1))) hd (by decide) (by omega)
  have n68 := fn_isName (k := 68) (by decide) hs hm
  have n67 := fn_isName (k := 67) (by decide) hs hm
  unfold lay opsQ
  rw [e1, run]
  dsimp only
  generalize hN0 : ba (Lib.itoa (j.n + 1)) = N at *
  rcases operate_cases d ⟨1, numF, ⟨#[]⟩, N⟩ with ⟨_, q⟩ | ⟨_, q⟩
  · rw [q]; simp
  rw [q]
  have hd1 : (note (burn d) ⟨1, numF, ⟨#[]⟩, N⟩).down = false := by show (burn d).down = false; rw [burn_down]; exact hd
  have hc1 : (note (burn d) ⟨1, numF, ⟨#[]⟩, N⟩).cap = d.cap := by show (burn d).cap = _; rw [burn_cap]
  have hf1 := files_note hd ⟨1, numF, ⟨#[]⟩, N⟩
  have hu1 : used (files (note (burn d) ⟨1, numF, ⟨#[]⟩, N⟩)) ≤ used (files d) + 22 := by
    rw [hf1]; have := used_after_le (files d) ⟨1, numF, ⟨#[]⟩, N⟩; dsimp only at this; omega
  generalize note (burn d) ⟨1, numF, ⟨#[]⟩, N⟩ = d1 at *
  by_cases hk : j.k = 3
  · simp only [hk, ne_eq, not_true_eq_false, and_false, if_false, if_true, List.nil_append]
    rw [write_op hd1 n67 (by omega), run]
    rcases operate_cases d1 ⟨1, fn 67 s j.g j.n, ⟨#[]⟩, t⟩ with ⟨_, q⟩ | ⟨_, q⟩
    · rw [q]; simp
    · rw [q, if_pos rfl, if_pos rfl, run]
  · simp only [hk, ne_eq, not_false_eq_true, and_self, if_false, if_true, List.cons_append, List.nil_append]
    rw [write_op hd1 n68 (by omega), run]
    rcases operate_cases d1 ⟨1, fn 68 s j.g j.n, ⟨#[]⟩, x⟩ with ⟨_, q⟩ | ⟨_, q⟩
    · rw [q]; simp
    rw [q, if_pos rfl, if_pos rfl]
    have hd2 : (note (burn d1) ⟨1, fn 68 s j.g j.n, ⟨#[]⟩, x⟩).down = false := by show (burn d1).down = false; rw [burn_down]; exact hd1
    have hc2 : (note (burn d1) ⟨1, fn 68 s j.g j.n, ⟨#[]⟩, x⟩).cap = d1.cap := by show (burn d1).cap = _; rw [burn_cap]
    have hf2 := files_note hd1 ⟨1, fn 68 s j.g j.n, ⟨#[]⟩, x⟩
    have hu2 : used (files (note (burn d1) ⟨1, fn 68 s j.g j.n, ⟨#[]⟩, x⟩)) ≤ used (files d1) + x.size + 16 := by
      rw [hf2]; exact used_after_le (files d1) ⟨1, fn 68 s j.g j.n, ⟨#[]⟩, x⟩
    generalize note (burn d1) ⟨1, fn 68 s j.g j.n, ⟨#[]⟩, x⟩ = d2 at *
    rw [write_op hd2 n67 (by omega), run]
    rcases operate_cases d2 ⟨1, fn 67 s j.g j.n, ⟨#[]⟩, t⟩ with ⟨_, q⟩ | ⟨_, q⟩
    · rw [q]; simp
    · rw [q, if_pos rfl, if_pos rfl, run]

/-- what may be queued -/
structure May (d : Dk) (s : ByteArray) (j : Job.Jb) (x : ByteArray) : Prop where
  up : d.down = false
  sys : Nam.system s.data.toList = true
  len : x.size ≤ 6000
  fet : j.k = 3 → x = ⟨#[]⟩
  num : j.n ≤ 99999
  few : (jobs d 67 ⟨#[]⟩).length < 40
  chk : Job.chk j = 0
  room : (used (files d) + x.size + (ba (Job.txt j)).size + 60 : Int) ≤ d.cap
theorem may_cases (d : Dk) (s : ByteArray) (j : Job.Jb) (x : ByteArray) : (∃ e, e ≠ 0 ∧ may d s j x = (⟨#[]⟩, e)) ∨ (May d s j x ∧ may d s j x = (ba (Job.txt j), 0)) := by
  unfold may
  by_cases h1 : d.down = true
  · exact .inl ⟨9, by omega, if_pos h1⟩
  rw [if_neg h1]
  by_cases h2 : Nam.system s.data.toList = false
  · exact .inl ⟨11, by omega, if_pos h2⟩
  rw [if_neg h2]
  by_cases h3 : 6000 < x.size
  · exact .inl ⟨5, by omega, if_pos h3⟩
  rw [if_neg h3]
  by_cases h4 : j.k = 3 ∧ x ≠ ⟨#[]⟩
  · exact .inl ⟨1, by omega, if_pos h4⟩
  rw [if_neg h4]
  by_cases h5 : 99999 < j.n
  · exact .inl ⟨8, by omega, if_pos h5⟩
  rw [if_neg h5]
  by_cases h6 : 40 ≤ (jobs d 67 ⟨#[]⟩).length
  · exact .inl ⟨8, by omega, if_pos h6⟩
  rw [if_neg h6]
  by_cases h7 : Job.chk j ≠ 0
  · exact .inl ⟨_, by omega, if_pos h7⟩
  rw [if_neg h7]
  by_cases h8 : ((used (files d) + x.size + (Job.txt j).length + 60 : Nat) : Int) > d.cap
  · exact .inl ⟨8, by omega, if_pos h8⟩
  rw [if_neg h8]
  have hb := ba_size (Job.txt j)
  refine .inr ⟨⟨by simpa using h1, by simpa using h2, by omega, fun hk => ?_, by omega, by omega, by omega, by omega⟩, rfl⟩
  exact Classical.not_not.1 (fun c => h4 ⟨hk, c⟩)
/-- what Queue leaves -/
def Queued (d : Dk) (s : ByteArray) (j : Job.Jb) (x : ByteArray) (r : Dk × (Int × Int) × Int) : Prop :=
  (∃ e, e ≠ 0 ∧ r = (d, (0, 0), e)) ∨
  (May d s (numbered d j x) x ∧ ∃ q, Down d (opsQ s (numbered d j x) (ba (Job.txt (numbered d j x))) x) q ∧ r = (q.1, (0, 0), 9)) ∨
  (May d s (numbered d j x) x ∧ ∃ q, Safe d (opsQ s (numbered d j x) (ba (Job.txt (numbered d j x))) x) q ∧ r = (q.1, ((numbered d j x).g, (numbered d j x).n), 0))
theorem queue_cases (d : Dk) (s : ByteArray) (j : Job.Jb) (x : ByteArray) (hf : -1 ≤ d.fuse) (hf' : d.fuse ≤ 9223372036854775807) : Queued d s j x (queue d s j x) := by
  unfold queue
  dsimp only
  rcases may_cases d s (numbered d j x) x with ⟨e, he, h⟩ | ⟨hm, h⟩
  · rw [h, if_neg he]; exact .inl ⟨e, he, rfl⟩
  · rw [h, if_pos rfl]
    have hmay := (Job.chk_ok.1 hm.chk).1
    rw [lay_run hm.up hm.sys hmay hm.room]
    rcases run_cases (opsQ s (numbered d j x) (ba (Job.txt (numbered d j x))) x) d hm.up hf hf' with q | q
    · have e := q.ex
      obtain ⟨i, _, e⟩ := e
      rw [if_neg (by rw [e]; simp)]
      exact .inr (.inl ⟨hm, _, q, by rw [e]⟩)
    · have e := q.ex
      obtain ⟨f, _, _, _, e⟩ := e
      rw [if_pos (by rw [e])]
      exact .inr (.inr ⟨hm, _, q, rfl⟩)
end Spl
end Go.Proofs.YtmilfamjkiemaaaGreatDoor
