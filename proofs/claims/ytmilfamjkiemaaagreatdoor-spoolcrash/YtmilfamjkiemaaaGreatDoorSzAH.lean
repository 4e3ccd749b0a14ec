/-
  Walks of layer 5: commands; the document's user and word. Walks of layer 1: octet.Text (over the shelf's strconv.Itoa), the document's Text. Walks of layer 3: Id, ofSystem, Note, File and the document's. Walks of layer 3: the document's System and Id, ofSystem, Note, File. Walks of layer 3: the document's Note and File, File, ParseId, the document's ParseId. Walks of layer 3: the document's File, ParseId, the document's ParseId.
-/
import Derived.Test.YtmilfamjkiemaaaGreatDoorSzAG
import Derived.Test.YtmilfamjkiemaaaGreatDoorSzAD
import Derived.Lib.Builder
import Derived.Test.YtmilfamjkiemaaaGreatDoorShelf
import Derived.Lib.ItoaMem
import Derived.Lib.ItoaLen
import Derived.Laws.BytesArg
import Derived.Test.YtmilfamjkiemaaaGreatDoorSzAE
import Derived.Laws.Runes
namespace Go.Proofs.YtmilfamjkiemaaaGreatDoor
open Go.RowKit

namespace Job
theorem hp_blank (l : List UInt8) : Lib.hasPrefix l [32] = (l.head? == some 32) := by
  cases l with
  | nil => rfl
  | cons a r =>
    simp only [Lib.hasPrefix, List.isPrefixOf, List.head?_cons, Bool.and_true]
    by_cases h : a = 32
    · subst h; rfl
    · have h1 : ((32 : UInt8) == a) = false := by simp; exact fun c => h c.symm
      rw [h1]; symm; simpa using h
theorem hs_blank (l : List UInt8) : Lib.hasSuffix l [32] = (l.getLast? == some 32) := by
  have := hp_blank l.reverse
  unfold Lib.hasPrefix at this
  unfold Lib.hasSuffix List.isSuffixOf
  rw [List.head?_reverse] at this
  exact this
end Job

theorem prefix_blank (s : ByteArray) (w : World) : Calls Tryz.prog 159 #[.string s, .string ⟨#[32]⟩] w fun e w' => e = .returned (.bool (s.data.toList.head? == some 32)) ∧ w' = w := by
  refine (Tryz.strings_HasPrefix s ⟨#[32]⟩ w).mono ?_
  rintro e w' ⟨rfl, rfl⟩
  exact ⟨ret_bool (Job.hp_blank _), rfl⟩
theorem suffix_blank (s : ByteArray) (w : World) (hs : s.size ≤ maxLen) : Calls Tryz.prog 162 #[.string s, .string ⟨#[32]⟩] w fun e w' => e = .returned (.bool (s.data.toList.getLast? == some 32)) ∧ w' = w := by
  refine (Tryz.strings_HasSuffix s ⟨#[32]⟩ w (by unfold maxLen at hs; omega)).mono ?_
  rintro e w' ⟨rfl, rfl⟩
  exact ⟨ret_bool (Job.hs_blank _), rfl⟩

namespace Job
theorem wrd_at {s : ByteArray} (h : s.data.toList.all okw = true) : wrd s.data.toList = (!(s.data.toList.head? == some 32) && !(s.data.toList.getLast? == some 32) && !(s.toList == []) && decide ((s.size : Int) ≤ 60)) := by
  unfold wrd
  rw [h, tl_eq, Oct.len_eq]
  have e1 : decide (1 ≤ s.size) = !(s.data.toList == []) := by rw [← Oct.len_eq]; cases s.data.toList <;> simp
  have e2 : decide ((s.size : Int) ≤ 60) = decide (s.size ≤ 60) := by simp; omega
  rw [e1, e2, Bool.true_and]
end Job

set_option maxHeartbeats 1000000 in
theorem isCommand_any (s : ByteArray) (w : World) (hs : s.size ≤ maxLen) :
    Calls Tryz.prog 133 #[.string s] w fun e w' => e = .returned (.bool (Job.wrd s.data.toList)) ∧ w' = w := by
  have HP : Hid (∀ w, Calls Tryz.prog 159 #[.string s, .string ⟨#[32]⟩] w fun e w' => e = .returned (.bool (s.data.toList.head? == some 32)) ∧ w' = w) := prefix_blank s
  have HS : Hid (∀ w, Calls Tryz.prog 162 #[.string s, .string ⟨#[32]⟩] w fun e w' => e = .returned (.bool (s.data.toList.getLast? == some 32)) ∧ w' = w) := fun w => suffix_blank s w hs
  unfold maxLen at hs
  go_enter Tryz.func133, Tryz.ntmps133
  go_wp2
  go_loop [6] (fun i => ∃ k : Nat, k ≤ s.size ∧ i = .int .i64 k ∧ Hid ((s.data.toList.take k).all Job.okw = true)) (fun i => s.size - (intOf i).toNat)
  case atStart => exact ⟨0, Nat.zero_le _, rfl, rfl⟩
  case round =>
    obtain ⟨k, hk, rfl, hall⟩ := hrel
    by_cases hlt : k < s.size
    · by_cases h1 : s[k].toNat < 32
      · have hr : Hid (Job.wrd s.data.toList = false) := Job.wrd_no (Job.all_not s k hlt (by simp [Job.okw]; omega))
        have hd : decide ((s[k].toNat : Int) < 32) = true := by simp; omega
        clear hall
        go_wp2
        go_ret
        exact ⟨ret_bool hr.out.symm, rfl⟩
      · have hd : decide ((s[k].toNat : Int) < 32) = false := by simp; omega
        by_cases h2 : 126 < s[k].toNat
        · have hr : Hid (Job.wrd s.data.toList = false) := Job.wrd_no (Job.all_not s k hlt (by simp [Job.okw]; omega))
          have hd2 : decide ((126 : Int) < (s[k].toNat : Int)) = true := by simp; omega
          clear hall
          go_wp2
          go_ret
          exact ⟨ret_bool hr.out.symm, rfl⟩
        · have hn : Hid ((s.data.toList.take (k + 1)).all Job.okw = true) := Job.all_take s k hlt hall.out (by simp [Job.okw]; omega)
          have hd2 : decide ((126 : Int) < (s[k].toNat : Int)) = false := by simp; omega
          clear hall
          go_wp2
          go_round
          case rel => exact ⟨k + 1, by omega, by go_num, hn⟩
          case measure => simp [intOf]; omega
    · obtain rfl : k = s.size := by omega
      have hr : Hid (Job.wrd s.data.toList = (!(s.data.toList.head? == some 32) && !(s.data.toList.getLast? == some 32) && !(s.toList == []) && decide ((s.size : Int) ≤ 60))) := by
        have := hall.out
        rw [Oct.take_all s s.size (Nat.le_refl _)] at this
        exact Job.wrd_at this
      clear hall
      generalize (s.data.toList.head? == some 32) = p at hr HP
      generalize (s.data.toList.getLast? == some 32) = q at hr HS
      cases p
      · cases q
        · cases h0 : (s.toList == [])
          · by_cases h1 : s.size ≤ 60
            · have d1 : decide ((s.size : Int) ≤ 60) = true := by simp; omega
              rw [h0, d1] at hr
              go_wp2_with (first | (go_at_call 159; refine (HP.out _).mono ?_; rintro e w' ⟨rfl, rfl⟩) | (go_at_call 162; refine (HS.out _).mono ?_; rintro e w' ⟨rfl, rfl⟩))
              go_ret
              exact ⟨ret_bool hr.out.symm, rfl⟩
            · have d1 : decide ((s.size : Int) ≤ 60) = false := by simp; omega
              rw [h0, d1] at hr
              go_wp2_with (first | (go_at_call 159; refine (HP.out _).mono ?_; rintro e w' ⟨rfl, rfl⟩) | (go_at_call 162; refine (HS.out _).mono ?_; rintro e w' ⟨rfl, rfl⟩))
              go_ret
              exact ⟨ret_bool hr.out.symm, rfl⟩
          · rw [h0] at hr
            go_wp2_with (first | (go_at_call 159; refine (HP.out _).mono ?_; rintro e w' ⟨rfl, rfl⟩) | (go_at_call 162; refine (HS.out _).mono ?_; rintro e w' ⟨rfl, rfl⟩))
            go_ret
            exact ⟨ret_bool hr.out.symm, rfl⟩
        · go_wp2_with (first | (go_at_call 159; refine (HP.out _).mono ?_; rintro e w' ⟨rfl, rfl⟩) | (go_at_call 162; refine (HS.out _).mono ?_; rintro e w' ⟨rfl, rfl⟩))
          go_ret
          exact ⟨ret_bool hr.out.symm, rfl⟩
      · go_wp2_with (first | (go_at_call 159; refine (HP.out _).mono ?_; rintro e w' ⟨rfl, rfl⟩) | (go_at_call 162; refine (HS.out _).mono ?_; rintro e w' ⟨rfl, rfl⟩))
        go_ret
        exact ⟨ret_bool hr.out.symm, rfl⟩

set_option maxHeartbeats 400000 in
theorem mayHave_any (k : Int) (s : ByteArray) (w : World) (hs : s.size ≤ maxLen) :
    Calls Tryz.prog 100 #[.int .i64 k, .string s] w fun e w' => e = .returned (.bool (Job.cmd k s.data.toList)) ∧ w' = w := by
  have HC : Hid (∀ w, Calls Tryz.prog 133 #[.string s] w fun e w' => e = .returned (.bool (Job.wrd s.data.toList)) ∧ w' = w) := fun w => isCommand_any s w hs
  have hr : Hid (Job.cmd k s.data.toList = if k = 2 then Job.wrd s.data.toList else (s.toList == [])) := by
    show _ = _
    unfold Job.cmd
    rw [tl_eq]
  go_enter Tryz.func100, Tryz.ntmps100
  by_cases h : k = 2
  · subst h
    rw [if_pos rfl] at hr
    go_wp2_with (go_at_call 133; refine (HC.out _).mono ?_; rintro e w' ⟨rfl, rfl⟩)
    go_ret
    exact ⟨ret_bool hr.out.symm, rfl⟩
  · have d1 : (k == 2) = false := by simp [h]
    have d2 : decide (k = 2) = false := by simp [h]
    have d3 : (k != 2) = true := by simp [h]
    rw [if_neg h] at hr
    cases h0 : (s.toList == [])
    all_goals
      rw [h0] at hr
      go_wp2
      go_ret
      exact ⟨ret_bool hr.out.symm, rfl⟩
end Go.Proofs.YtmilfamjkiemaaaGreatDoor

namespace Go.Proofs.YtmilfamjkiemaaaGreatDoor
open Go.RowKit

theorem below_grow (w : World) (k : Nat) (os : Array Obj) : Below w.heap.size w (Go.Sort.grow (w.drewN k) os) :=
  ⟨rfl, rfl, rfl, by simp [Go.Sort.grow], fun i hi => by
    simp only [Go.Sort.grow]
    have e : (w.drewN k).heap = w.heap := rfl
    rw [e, Array.getElem?_append_left hi]⟩
theorem tab_below {w w' : World} {name : String} {k : IntKind} {zs : List Int} (h : Lib.TabIs Tryz.prog w name k zs) (hb : Below w.heap.size w w') : Lib.TabIs Tryz.prog w' name k zs := by
  unfold Lib.TabIs World.var? at *
  cases hg : Tryz.prog.globalNamed name with
  | none => simp [hg] at h
  | some g =>
    simp only [hg, Option.bind_some] at h ⊢
    have hlt : g < w.heap.size := by
      rcases Nat.lt_or_ge g w.heap.size with h' | h'
      · exact h'
      · rw [Array.getElem?_eq_none h'] at h; simp at h
    rw [hb.block g hlt]
    exact h

set_option maxHeartbeats 400000 in
theorem text_any (n : Int) (w : World) (h0 : -9223372036854775808 ≤ n) (h1 : n ≤ 9223372036854775807) (htab : Lib.TabIs Tryz.prog w "internal/strconv.uint64pow10" .u64 Lib.pow10Tab) :
    Calls Tryz.prog 64 #[.int .i64 n] w fun e w' => e = .returned (.string ⟨(Lib.itoa n).toArray⟩) ∧ Below w.heap.size w w' := by
  have HA := Tryz.strconv_Itoa n h0 h1 w htab
  go_enter Tryz.func64, Tryz.ntmps64
  go_wp2_with (go_at_call 102; refine HA.mono ?_; rintro e w' ⟨rfl, k, os, rfl⟩)
  go_ret
  exact ⟨rfl, below_grow w k os⟩

theorem ba_app (a b : List UInt8) : (⟨a.toArray⟩ : ByteArray) ++ ⟨b.toArray⟩ = ⟨(a ++ b).toArray⟩ := by
  apply ByteArray.ext; rw [ByteArray.data_append]; simp
def byteOf (x : Int) : UInt8 := UInt8.ofNat x.toNat
end Go.Proofs.YtmilfamjkiemaaaGreatDoor

namespace Go.Proofs.YtmilfamjkiemaaaGreatDoor
open Go.RowKit
theorem ret_si {a b : ByteArray} {x y : Int} (h : a = b) (h' : x = y) : Ending.returned (.tuple #[.string a, .int .i64 x]) = .returned (.tuple #[.string b, .int .i64 y]) := by rw [h, h']
theorem bcell {W w1 : World} (hb : Below W.heap.size W w1) : (∀ b o, b < W.heap.size → w1.cell? ⟨b, o, none⟩ = W.cell? ⟨b, o, none⟩) ∧ (∀ b o, b < W.heap.size → w1.frozen? ⟨b, o, none⟩ = W.frozen? ⟨b, o, none⟩) :=
  ⟨fun b o h => hb.cell (p := ⟨b, o, none⟩) h, fun b o h => hb.frozen (p := ⟨b, o, none⟩) h⟩
set_option maxHeartbeats 1000000 in
theorem id_yes (g n : Int) (w : World) (hm : Nam.may g n = true) (htab : Lib.TabIs Tryz.prog w "internal/strconv.uint64pow10" .u64 Lib.pow10Tab) :
    Calls Tryz.prog 62 #[.agg #[.int .i64 g, .int .i64 n]] w fun e w' => e = .returned (.tuple #[.string ⟨(Nam.idT g n).toArray⟩, .int .i64 0]) ∧ Below w.heap.size w w' := by
  have HM : Hid (∀ w : World, Calls Tryz.prog 101 #[.agg #[.int .i64 g, .int .i64 n]] w fun e w' => e = .returned (.bool true) ∧ w' = w.alloc (.cells #[.int .i64 g, .int .i64 n] 31)) := fun w => by have := mayBe_any g n w; rwa [hm] at this
  obtain ⟨hg, h1, h2⟩ := Nam.may_iff.1 hm
  obtain ⟨g0, g1⟩ := Nam.grade_bd hg
  have hw : IntKind.i32.wrap g = g := by rw [IntKind.wrap_i32]; omega
  have henc : Utf8.encode g = ⟨#[Nam.byteOf g]⟩ := by
    have hv : Utf8.valid g = true := by simp [Utf8.valid]; omega
    have hc : g.toNat < 128 := by omega
    unfold Utf8.encode
    simp only [hv, if_true, hc]
    rfl
  have b0 := below_alloc2 w (.cells #[.int .i64 g, .int .i64 n] 31) (.cells #[.int .i64 g, .int .i64 n] 31)
  have HT : Hid (∀ W, Below w.heap.size w W → Calls Tryz.prog 64 #[.int .i64 n] W fun e w' => e = .returned (.string ⟨(Lib.itoa n).toArray⟩) ∧ Below W.heap.size W w') :=
    fun W hW => text_any n _ (by omega) (by omega) (tab_below htab hW)
  have hl5 := Nam.itoa_len h1 h2
  clear hm hg htab
  go_enter Tryz.func62, Tryz.ntmps62
  go_wp2_with (go_at_call 101; refine (HM.out _).mono ?_; rintro e w1 ⟨rfl, rfl⟩)
  go_region_with (go_at_call 64; refine (HT.out _ b0.drew).mono ?_; rintro e w2 ⟨rfl, b2⟩; obtain ⟨hc2, hf2⟩ := bcell b2)
  all_goals
    go_wp2
    go_ret2
    exact ⟨ret_si (ba_app [_] _) rfl, b0.drew.trans (b2.mono b0.drew.size)⟩
set_option maxHeartbeats 1000000 in
theorem id_no (g n : Int) (w : World) (hm : Nam.may g n = false) :
    Calls Tryz.prog 62 #[.agg #[.int .i64 g, .int .i64 n]] w fun e w' => e = .returned (.tuple #[.string ⟨#[]⟩, .int .i64 1]) ∧ Below w.heap.size w w' := by
  have HM : Hid (∀ w : World, Calls Tryz.prog 101 #[.agg #[.int .i64 g, .int .i64 n]] w fun e w' => e = .returned (.bool false) ∧ w' = w.alloc (.cells #[.int .i64 g, .int .i64 n] 31)) := fun w => by have := mayBe_any g n w; rwa [hm] at this
  have b0 := below_alloc2 w (.cells #[.int .i64 g, .int .i64 n] 31) (.cells #[.int .i64 g, .int .i64 n] 31)
  clear hm
  go_enter Tryz.func62, Tryz.ntmps62
  go_wp2_with (go_at_call 101; refine (HM.out _).mono ?_; rintro e w1 ⟨rfl, rfl⟩)
  go_ret2
  exact ⟨rfl, b0⟩
theorem id_any (g n : Int) (w : World) (htab : Lib.TabIs Tryz.prog w "internal/strconv.uint64pow10" .u64 Lib.pow10Tab) :
    Calls Tryz.prog 62 #[.agg #[.int .i64 g, .int .i64 n]] w fun e w' => e = .returned (.tuple #[.string ⟨(Nam.id g n).1.toArray⟩, .int .i64 (Nam.id g n).2]) ∧ Below w.heap.size w w' := by
  cases hm : Nam.may g n with
  | true => have := id_yes g n w hm htab; unfold Nam.id; rw [if_pos hm]; exact this
  | false => have := id_no g n w hm; unfold Nam.id; rw [if_neg (by simp [hm])]; exact this

end Go.Proofs.YtmilfamjkiemaaaGreatDoor

namespace Go.Proofs.YtmilfamjkiemaaaGreatDoor
open Go.RowKit

namespace Nam
end Nam

theorem enc_small {g : Int} (h0 : 0 ≤ g) (h1 : g < 128) : Utf8.encode g = ⟨#[Nam.byteOf g]⟩ := by
  have hv : Utf8.valid g = true := by simp [Utf8.valid]; omega
  have hc : g.toNat < 128 := by omega
  unfold Utf8.encode
  simp only [hv, if_true, hc]
  rfl
theorem ba_list (s : ByteArray) : s = ⟨s.data.toList.toArray⟩ := rfl
theorem sysT_ba (k : Int) (s : ByteArray) : (⟨#[Nam.byteOf k]⟩ ++ ⟨#[46]⟩ ++ s : ByteArray) = ⟨(Nam.sysT k s.data.toList).toArray⟩ := by
  exact (congrArg (· ++ s) (ba_app [Nam.byteOf k] [46])).trans (ba_app _ s.data.toList)
set_option maxHeartbeats 1000000 in
theorem ofSystem_any (k : Int) (s : ByteArray) (w : World) (h0 : 0 ≤ k) (h1 : k < 128) (hs : s.size ≤ 7) :
    Calls Tryz.prog 68 #[.int .i64 k, .string s] w fun e w' => e = .returned (.string ⟨(Nam.sysT k s.data.toList).toArray⟩) ∧ w' = w := by
  have hw : IntKind.i32.wrap k = k := by rw [IntKind.wrap_i32]; omega
  have henc := enc_small h0 h1
  go_enter Tryz.func68, Tryz.ntmps68
  go_wp2
  go_ret
  exact ⟨ret_s (sysT_ba k s), rfl⟩

end Go.Proofs.YtmilfamjkiemaaaGreatDoor

namespace Go.Proofs.YtmilfamjkiemaaaGreatDoor
open Go.RowKit

namespace Nam
theorem file_kind {k : Int} {s : List UInt8} {g n : Int} (h : fk k = false) : file k s g n = ([], 1) := by unfold file; rw [if_pos h]
theorem file_sys {k : Int} {s : List UInt8} {g n : Int} (h : fk k = true) (h2 : system s = false) : file k s g n = ([], 11) := by unfold file; rw [if_neg (by simp [h]), if_pos h2]
theorem file_id {k : Int} {s : List UInt8} {g n : Int} (h : fk k = true) (h2 : system s = true) (h3 : may g n = false) : file k s g n = ([], 1) := by
  unfold file; rw [if_neg (by simp [h]), if_neg (by simp [h2]), if_pos h3]
theorem file_ok {k : Int} {s : List UInt8} {g n : Int} (h : fk k = true) (h2 : system s = true) (h3 : may g n = true) : file k s g n = (fileT k s g n, 0) := by
  unfold file; rw [if_neg (by simp [h]), if_neg (by simp [h2]), if_neg (by simp [h3])]
end Nam
theorem fileT_ba (k : Int) (s : ByteArray) (g n : Int) : (⟨(Nam.sysT k s.data.toList).toArray⟩ ++ ⟨#[46]⟩ ++ ⟨(Nam.idT g n).toArray⟩ : ByteArray) = ⟨(Nam.fileT k s.data.toList g n).toArray⟩ := by
  refine ((congrArg (· ++ (⟨(Nam.idT g n).toArray⟩ : ByteArray)) (ba_app (Nam.sysT k s.data.toList) [46])).trans (ba_app _ _)).trans ?_
  unfold Nam.fileT; simp
theorem idT_len {g n : Int} (hm : Nam.may g n = true) : (Nam.idT g n).length ≤ 6 := by
  obtain ⟨_, h1, h2⟩ := Nam.may_iff.1 hm
  have := Nam.itoa_len h1 h2
  unfold Nam.idT; rw [List.length_cons]; omega
theorem sysT_len (k : Int) (s : ByteArray) (h : s.size ≤ 7) : (Nam.sysT k s.data.toList).length ≤ 9 := by
  unfold Nam.sysT; rw [List.length_cons, List.length_cons, Oct.len_eq]; omega

set_option maxHeartbeats 1000000 in
theorem file_any (k : Int) (s : ByteArray) (g n : Int) (w : World) (hs : s.size ≤ maxLen) (htab : Lib.TabIs Tryz.prog w "internal/strconv.uint64pow10" .u64 Lib.pow10Tab) :
    Calls Tryz.prog 33 #[.int .i64 k, .string s, .agg #[.int .i64 g, .int .i64 n]] w fun e w' => e = .returned (.tuple #[.string ⟨(Nam.file k s.data.toList g n).1.toArray⟩, .int .i64 (Nam.file k s.data.toList g n).2]) ∧ Below w.heap.size w w' := by
  have H1 : Hid (∀ w : World, Calls Tryz.prog 66 #[.int .i64 k] w fun e w' => e = .returned (.bool (Nam.fk k)) ∧ w' = w) := fun w => isFileKind_any k w
  have H2 : Hid (∀ w : World, Calls Tryz.prog 67 #[.string s] w fun e w' => e = .returned (.bool (Nam.system s.data.toList)) ∧ w' = w) := fun w => system_any s w hs
  have b0 := below_alloc1 w (.cells #[.int .i64 g, .int .i64 n] 31)
  have hlen := Oct.len_eq s
  cases hk : Nam.fk k with
  | false =>
    have hr : Hid (Nam.file k s.data.toList g n = ([], 1)) := Nam.file_kind hk
    rw [hk] at H1
    clear hk hlen H2 htab
    go_enter Tryz.func33, Tryz.ntmps33
    go_wp2_with (go_at_call 66; refine (H1.out _).mono ?_; rintro e w1 ⟨rfl, rfl⟩)
    go_ret2
    exact ⟨ret_si (by rw [hr.out]) (by rw [hr.out]), b0⟩
  | true =>
    obtain ⟨k0, k1⟩ := Nam.fk_bd hk
    cases hy : Nam.system s.data.toList with
    | false =>
      have hr : Hid (Nam.file k s.data.toList g n = ([], 11)) := Nam.file_sys hk hy
      rw [hk] at H1
      rw [hy] at H2
      clear hk hy hlen htab
      go_enter Tryz.func33, Tryz.ntmps33
      go_wp2_with (go_at_call 66; refine (H1.out _).mono ?_; rintro e w1 ⟨rfl, rfl⟩)
      go_wp2_with (go_at_call 67; refine (H2.out _).mono ?_; rintro e w1 ⟨rfl, rfl⟩)
      go_ret2
      exact ⟨ret_si (by rw [hr.out]) (by rw [hr.out]), b0⟩
    | true =>
      have h7 : s.size ≤ 7 := by have := (Nam.system_len hy).2; omega
      cases hm : Nam.may g n with
      | false =>
        have hr : Hid (Nam.file k s.data.toList g n = ([], 1)) := Nam.file_id hk hy hm
        have H3 : Hid (∀ w : World, Calls Tryz.prog 62 #[.agg #[.int .i64 g, .int .i64 n]] w fun e w' => e = .returned (.tuple #[.string ⟨#[]⟩, .int .i64 1]) ∧ Below w.heap.size w w') := fun w => id_no g n w hm
        rw [hk] at H1
        rw [hy] at H2
        clear hk hy hlen htab hm
        go_enter Tryz.func33, Tryz.ntmps33
        go_wp2_with (go_at_call 66; refine (H1.out _).mono ?_; rintro e w1 ⟨rfl, rfl⟩)
        go_wp2_with (go_at_call 67; refine (H2.out _).mono ?_; rintro e w1 ⟨rfl, rfl⟩)
        go_wp2_with (go_at_call 62; refine (H3.out _).mono ?_)
        rintro e w2 ⟨rfl, b2⟩
        go_wp2
        go_ret2
        exact ⟨ret_si (by rw [hr.out]) (by rw [hr.out]), b0.trans (b2.mono b0.size)⟩
      | true =>
        have hr : Hid (Nam.file k s.data.toList g n = (Nam.fileT k s.data.toList g n, 0)) := Nam.file_ok hk hy hm
        have H3 : Hid (∀ W : World, Below w.heap.size w W → Calls Tryz.prog 62 #[.agg #[.int .i64 g, .int .i64 n]] W fun e w' => e = .returned (.tuple #[.string ⟨(Nam.idT g n).toArray⟩, .int .i64 0]) ∧ Below W.heap.size W w') := fun W hW => id_yes g n W hm (tab_below htab hW)
        have H4 : Hid (∀ w : World, Calls Tryz.prog 68 #[.int .i64 k, .string s] w fun e w' => e = .returned (.string ⟨(Nam.sysT k s.data.toList).toArray⟩) ∧ w' = w) := fun w => ofSystem_any k s w (by omega) (by omega) h7
        have HB : Hid ((⟨(Nam.sysT k s.data.toList).toArray⟩ ++ ⟨#[46]⟩ ++ ⟨(Nam.idT g n).toArray⟩ : ByteArray) = ⟨(Nam.fileT k s.data.toList g n).toArray⟩) := fileT_ba k s g n
        have l1 := idT_len hm
        have l2 := sysT_len k s h7
        generalize Nam.idT g n = A at *
        generalize Nam.sysT k s.data.toList = B at *
        rw [hk] at H1
        rw [hy] at H2
        clear hk hy hlen htab hm
        go_enter Tryz.func33, Tryz.ntmps33
        go_wp2_with (go_at_call 66; refine (H1.out _).mono ?_; rintro e w1 ⟨rfl, rfl⟩)
        go_wp2_with (go_at_call 67; refine (H2.out _).mono ?_; rintro e w1 ⟨rfl, rfl⟩)
        go_wp2_with (go_at_call 62; refine (H3.out _ b0).mono ?_)
        rintro e w2 ⟨rfl, b2⟩
        go_wp2_with (go_at_call 68; refine (H4.out _).mono ?_; rintro e w1 ⟨rfl, rfl⟩)
        go_ret2
        exact ⟨ret_si (by rw [hr.out]; exact HB.out) (by rw [hr.out]), b0.trans (b2.mono b0.size)⟩
end Go.Proofs.YtmilfamjkiemaaaGreatDoor

namespace Go.Proofs.YtmilfamjkiemaaaGreatDoor
open Go.RowKit

theorem below_alloc3 (w : World) (a b c : Obj) : Below w.heap.size w (((w.alloc a).alloc b).alloc c) := (below_alloc2 w a b).alloc (below_alloc2 w a b).size _
theorem two_cells {W : World} {b : Nat} {u0 u1 : Value} (h0 : W.cell? ⟨b, 0, none⟩ = some u0) (h1 : W.cell? ⟨b, 1, none⟩ = some u1) (v0 v1 : Value) :
    (W.setCell ⟨b, 0, none⟩ v0).cell? ⟨b, 0, none⟩ = some v0 ∧ ((W.setCell ⟨b, 0, none⟩ v0).setCell ⟨b, 1, none⟩ v1).cell? ⟨b, 1, none⟩ = some v1 ∧ ((W.setCell ⟨b, 0, none⟩ v0).setCell ⟨b, 1, none⟩ v1).cell? ⟨b, 0, none⟩ = some v0 := by
  have a0 := World.cell?_setCell_same W ⟨b, 0, none⟩ v0 h0
  have a1 : (W.setCell ⟨b, 0, none⟩ v0).cell? ⟨b, 1, none⟩ = some u1 := by rw [World.cell?_setCell_other]; exact h1; simp
  exact ⟨a0, World.cell?_setCell_same _ ⟨b, 1, none⟩ v1 a1, by rw [World.cell?_setCell_other]; exact a0; simp⟩
namespace Nam
theorem pid_at (s : ByteArray) (hp : 0 < s.size) : pid s.data.toList = if (Oct.number (s.data.toList.drop 1)).2 = 0 ∧ may (s[0].toNat : Int) ((Oct.number (s.data.toList.drop 1)).1 : Int) = true then ((s[0].toNat : Int), ((Oct.number (s.data.toList.drop 1)).1 : Int), 0) else (0, 0, 3) := by
  have hl : 0 < s.data.toList.length := by rw [Oct.len_eq]; exact hp
  have hd : s.data.toList = s[0] :: s.data.toList.drop 1 := by
    have := List.drop_eq_getElem_cons hl
    rw [List.drop_zero] at this; exact this
  conv => lhs; rw [hd, pid]
end Nam

set_option maxHeartbeats 1000000 in
theorem parseId_any (s : ByteArray) (w : World) (hs : s.size ≤ maxLen) :
    Calls Tryz.prog 127 #[.string s] w fun e w' => e = .returned (.tuple #[.agg #[.int .i64 (Nam.pid s.data.toList).1, .int .i64 (Nam.pid s.data.toList).2.1], .int .i64 (Nam.pid s.data.toList).2.2]) ∧ Below w.heap.size w w' := by
  have hs' := hs
  unfold maxLen at hs
  by_cases h0 : s.size = 0
  · have hz : s = ⟨#[]⟩ := ByteArray.ext (Array.eq_empty_of_size_eq_zero h0)
    subst hz
    go_enter Tryz.func127, Tryz.ntmps127
    go_wp2
    exact bodyPost_ret (v := .tuple #[.agg #[.int .i64 0, .int .i64 0], .int .i64 3]) (by simp [results, Tryz.results127, go_sem]) rfl ⟨rfl, below_alloc1 _ _⟩
  · have hz : (s.toList == []) = false := by
      rw [beq_eq_false_iff_ne]; intro h; rw [ByteArray.toList_eq] at h; exact h0 (by rw [← Oct.len_eq s, h]; rfl)
    have hp : 0 < s.size := by omega
    have hpid := Nam.pid_at s hp
    have HN : Hid (∀ w : World, Calls Tryz.prog 86 #[.string (s.extract 1 s.size)] w fun e w' => e = .returned (.tuple #[.int .i64 (Oct.number (s.data.toList.drop 1)).1, .int .i64 (Oct.number (s.data.toList.drop 1)).2]) ∧ w' = w) := fun w => by
      have := number_any (s.extract 1 s.size) w (by rw [extract_drop]; show (List.toArray _).size ≤ _; rw [List.size_toArray, List.length_drop, Oct.len_eq]; unfold maxLen; omega)
      rw [extract_drop] at this ⊢
      exact this
    generalize Oct.number (s.data.toList.drop 1) = Q at *
    obtain ⟨n, e⟩ := Q
    dsimp only at hpid HN
    by_cases he : e = 0
    · subst he
      have HN0 : Hid (∀ w : World, Calls Tryz.prog 86 #[.string (s.extract 1 s.size)] w fun e w' => e = .returned (.tuple #[.int .i64 (n : Int), .int .i64 0]) ∧ w' = w) := HN.out
      have HM : Hid (∀ w : World, Calls Tryz.prog 101 #[.agg #[.int .i64 (wrap64 (s[0].toNat : Int)), .int .i64 (n : Int)]] w fun e w' => e = .returned (.bool (Nam.may (s[0].toNat : Int) (n : Int))) ∧ w' = w.alloc (.cells #[.int .i64 (wrap64 (s[0].toNat : Int)), .int .i64 (n : Int)] 31)) := fun w => by have := mayBe_any (s[0].toNat : Int) (n : Int) w; rw [wrap_byte]; exact this
      have HW : Hid (wrap64 (s[0].toNat : Int) = (s[0].toNat : Int)) := wrap_byte _
      have HP : Hid (Nam.pid s.data.toList = if Nam.may (s[0].toNat : Int) (n : Int) = true then ((s[0].toNat : Int), (n : Int), 0) else (0, 0, 3)) := by show _ = _; rw [hpid]; simp
      clear hpid HN
      cases hm : Nam.may (s[0].toNat : Int) (n : Int) with
      | false =>
        have HR : Hid (Nam.pid s.data.toList = (0, 0, 3)) := by show _ = _; rw [HP.out, hm]; rfl
        rw [hm] at HM
        clear hm HP
        go_enter Tryz.func127, Tryz.ntmps127
        go_wp2_with (go_at_call 86; refine (HN0.out _).mono ?_; rintro e w1 ⟨rfl, rfl⟩)
        go_wp2_with (go_at_call 101; refine (HM.out _).mono ?_; rintro e w1 ⟨rfl, rfl⟩)
        exact bodyPost_ret (v := .tuple #[.agg #[.int .i64 0, .int .i64 0], .int .i64 3]) (by simp [results, Tryz.results127, go_sem]) rfl ⟨by rw [HR.out], below_alloc3 _ _ _ _⟩
      | true =>
        have HR : Hid (Nam.pid s.data.toList = ((s[0].toNat : Int), (n : Int), 0)) := by show _ = _; rw [HP.out, hm]; rfl
        rw [hm] at HM
        clear hm HP
        go_enter Tryz.func127, Tryz.ntmps127
        go_wp2_with (go_at_call 86; refine (HN0.out _).mono ?_; rintro e w1 ⟨rfl, rfl⟩)
        go_wp2_with (go_at_call 101; refine (HM.out _).mono ?_; rintro e w1 ⟨rfl, rfl⟩)
        exact bodyPost_ret (v := .tuple #[.agg #[.int .i64 (wrap64 (s[0].toNat : Int)), .int .i64 (n : Int)], .int .i64 0]) (by simp [results, Tryz.results127, go_sem]) rfl ⟨by rw [HR.out, HW.out], by first | exact below_alloc3 _ _ _ _ | exact ((below_alloc3 _ _ _ _).setCell (by simp) _).setCell (by simp) _⟩
    · have HR : Hid (Nam.pid s.data.toList = (0, 0, 3)) := by show _ = _; rw [hpid]; simp [he]
      have de : ((e : Int) != 0) = true := by rw [bne_iff_ne]; omega
      clear hpid he
      go_enter Tryz.func127, Tryz.ntmps127
      go_wp2_with (go_at_call 86; refine (HN.out _).mono ?_; rintro e w1 ⟨rfl, rfl⟩)
      exact bodyPost_ret (v := .tuple #[.agg #[.int .i64 0, .int .i64 0], .int .i64 3]) (by simp [results, Tryz.results127, go_sem]) rfl ⟨by rw [HR.out], below_alloc2 _ _ _⟩

end Go.Proofs.YtmilfamjkiemaaaGreatDoor
