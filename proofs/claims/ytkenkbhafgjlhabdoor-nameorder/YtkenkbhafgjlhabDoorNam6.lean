/-
  Walks of layer 3: the document's Note and File, File, ParseId, the document's ParseId.
-/
import Derived.Test.YtkenkbhafgjlhabDoorNam5
namespace Go.Proofs.YtkenkbhafgjlhabDoor
open Go.RowKit

namespace Nam
theorem file_kind {k : Int} {s : List UInt8} {g n : Int} (h : fk k = false) : file k s g n = ([], 1) := by unfold file; rw [if_pos h]
theorem file_sys {k : Int} {s : List UInt8} {g n : Int} (h : fk k = true) (h2 : system s = false) : file k s g n = ([], 11) := by unfold file; rw [if_neg (by simp [h]), if_pos h2]
theorem file_id {k : Int} {s : List UInt8} {g n : Int} (h : fk k = true) (h2 : system s = true) (h3 : may g n = false) : file k s g n = ([], 1) := by
  unfold file; rw [if_neg (by simp [h]), if_neg (by simp [h2]), if_pos h3]
theorem file_ok {k : Int} {s : List UInt8} {g n : Int} (h : fk k = true) (h2 : system s = true) (h3 : may g n = true) : file k s g n = (fileT k s g n, 0) := by
  unfold file; rw [if_neg (by simp [h]), if_neg (by simp [h2]), if_neg (by simp [h3])]
end Nam
theorem fileT_ba (k : Int) (s : ByteArray) (g n : Int) : (⟨(Nam.sysT k s.data.toList).toArray⟩ ++ ⟨#[46]⟩ ++ ⟨(Nam.idT g n).toArray⟩ : ByteArray) = ⟨(Nam.fileT k s.data.toList g n).toArray⟩ := by
  refine ((congrArg (· ++ (⟨(Nam.idT g n).toArray⟩ : ByteArray)) (ba_app (Nam.sysT k s.data.toList) [46])).trans (ba_app _ _)).trans ?_
  unfold Nam.fileT; simp
theorem idT_len {g n : Int} (hm : Nam.may g n = true) : (Nam.idT g n).length ≤ 6 := by
  obtain ⟨_, h1, h2⟩ := Nam.may_iff.1 hm
  have := Nam.itoa_len h1 h2
  unfold Nam.idT; rw [List.length_cons]; omega
theorem sysT_len (k : Int) (s : ByteArray) (h : s.size ≤ 7) : (Nam.sysT k s.data.toList).length ≤ 9 := by
  unfold Nam.sysT; rw [List.length_cons, List.length_cons, Oct.len_eq]; omega

set_option maxHeartbeats 1000000 in
theorem file_any (k : Int) (s : ByteArray) (g n : Int) (w : World) (hs : s.size ≤ maxLen) (htab : Lib.TabIs Tryd.prog w "internal/strconv.uint64pow10" .u64 Lib.pow10Tab) :
    Calls Tryd.prog 6 #[.int .i64 k, .string s, .agg #[.int .i64 g, .int .i64 n]] w fun e w' => e = .returned (.tuple #[.string ⟨(Nam.file k s.data.toList g n).1.toArray⟩, .int .i64 (Nam.file k s.data.toList g n).2]) ∧ Below w.heap.size w w' := by
  have H1 : Hid (∀ w : World, Calls Tryd.prog 8 #[.int .i64 k] w fun e w' => e = .returned (.bool (Nam.fk k)) ∧ w' = w) := fun w => isFileKind_any k w
  have H2 : Hid (∀ w : World, Calls Tryd.prog 9 #[.string s] w fun e w' => e = .returned (.bool (Nam.system s.data.toList)) ∧ w' = w) := fun w => system_any s w hs
  have b0 := below_alloc1 w (.cells #[.int .i64 g, .int .i64 n] 23)
  have hlen := Oct.len_eq s
  cases hk : Nam.fk k with
  | false =>
    have hr : Hid (Nam.file k s.data.toList g n = ([], 1)) := Nam.file_kind hk
    rw [hk] at H1
    clear hk hlen H2 htab
    go_enter Tryd.func6, Tryd.ntmps6
    go_wp2_with (go_at_call 8; refine (H1.out _).mono ?_; rintro e w1 ⟨rfl, rfl⟩)
    go_ret2
    exact ⟨ret_si (by rw [hr.out]) (by rw [hr.out]), b0⟩
  | true =>
    obtain ⟨k0, k1⟩ := Nam.fk_bd hk
    cases hy : Nam.system s.data.toList with
    | false =>
      have hr : Hid (Nam.file k s.data.toList g n = ([], 11)) := Nam.file_sys hk hy
      rw [hk] at H1
      rw [hy] at H2
      clear hk hy hlen htab
      go_enter Tryd.func6, Tryd.ntmps6
      go_wp2_with (go_at_call 8; refine (H1.out _).mono ?_; rintro e w1 ⟨rfl, rfl⟩)
      go_wp2_with (go_at_call 9; refine (H2.out _).mono ?_; rintro e w1 ⟨rfl, rfl⟩)
      go_ret2
      exact ⟨ret_si (by rw [hr.out]) (by rw [hr.out]), b0⟩
    | true =>
      have h7 : s.size ≤ 7 := by have := (Nam.system_len hy).2; omega
      cases hm : Nam.may g n with
      | false =>
        have hr : Hid (Nam.file k s.data.toList g n = ([], 1)) := Nam.file_id hk hy hm
        have H3 : Hid (∀ w : World, Calls Tryd.prog 10 #[.agg #[.int .i64 g, .int .i64 n]] w fun e w' => e = .returned (.tuple #[.string ⟨#[]⟩, .int .i64 1]) ∧ Below w.heap.size w w') := fun w => id_no g n w hm
        rw [hk] at H1
        rw [hy] at H2
        clear hk hy hlen htab hm
        go_enter Tryd.func6, Tryd.ntmps6
        go_wp2_with (go_at_call 8; refine (H1.out _).mono ?_; rintro e w1 ⟨rfl, rfl⟩)
        go_wp2_with (go_at_call 9; refine (H2.out _).mono ?_; rintro e w1 ⟨rfl, rfl⟩)
        go_wp2_with (go_at_call 10; refine (H3.out _).mono ?_)
        rintro e w2 ⟨rfl, b2⟩
        go_wp2
        go_ret2
        exact ⟨ret_si (by rw [hr.out]) (by rw [hr.out]), b0.trans (b2.mono b0.size)⟩
      | true =>
        have hr : Hid (Nam.file k s.data.toList g n = (Nam.fileT k s.data.toList g n, 0)) := Nam.file_ok hk hy hm
        have H3 : Hid (∀ W : World, Below w.heap.size w W → Calls Tryd.prog 10 #[.agg #[.int .i64 g, .int .i64 n]] W fun e w' => e = .returned (.tuple #[.string ⟨(Nam.idT g n).toArray⟩, .int .i64 0]) ∧ Below W.heap.size W w') := fun W hW => id_yes g n W hm (tab_below htab hW)
        have H4 : Hid (∀ w : World, Calls Tryd.prog 11 #[.int .i64 k, .string s] w fun e w' => e = .returned (.string ⟨(Nam.sysT k s.data.toList).toArray⟩) ∧ w' = w) := fun w => ofSystem_any k s w (by omega) (by omega) h7
        have HB : Hid ((⟨(Nam.sysT k s.data.toList).toArray⟩ ++ ⟨#[46]⟩ ++ ⟨(Nam.idT g n).toArray⟩ : ByteArray) = ⟨(Nam.fileT k s.data.toList g n).toArray⟩) := fileT_ba k s g n
        have l1 := idT_len hm
        have l2 := sysT_len k s h7
        generalize Nam.idT g n = A at *
        generalize Nam.sysT k s.data.toList = B at *
        rw [hk] at H1
        rw [hy] at H2
        clear hk hy hlen htab hm
        go_enter Tryd.func6, Tryd.ntmps6
        go_wp2_with (go_at_call 8; refine (H1.out _).mono ?_; rintro e w1 ⟨rfl, rfl⟩)
        go_wp2_with (go_at_call 9; refine (H2.out _).mono ?_; rintro e w1 ⟨rfl, rfl⟩)
        go_wp2_with (go_at_call 10; refine (H3.out _ b0).mono ?_)
        rintro e w2 ⟨rfl, b2⟩
        go_wp2_with (go_at_call 11; refine (H4.out _).mono ?_; rintro e w1 ⟨rfl, rfl⟩)
        go_ret2
        exact ⟨ret_si (by rw [hr.out]; exact HB.out) (by rw [hr.out]), b0.trans (b2.mono b0.size)⟩
end Go.Proofs.YtkenkbhafgjlhabDoor
