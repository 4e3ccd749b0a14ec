/-
  Walks of layer 4: the document's Under, Permit and the document's Permit; long.
-/
import Derived.Test.YtkbemfhdamdglaaDoorPat4
import Derived.OpenShut
import Derived.Lib.Builder
namespace Go.Proofs.YtkbemfhdamdglaaDoor
open Go.RowKit

namespace Pth
theorem stroke_prefix (r p : Bs) : (r ++ [47]).isPrefixOf p = (decide (r.length < p.length) && (p.take r.length == r) && (p[r.length]? == some 47)) := by
  rw [Bool.eq_iff_iff, List.isPrefixOf_iff_prefix]
  simp only [Bool.and_eq_true, decide_eq_true_eq, beq_iff_eq]
  constructor
  · rintro ⟨t, rfl⟩
    refine ⟨⟨by simp, by simp⟩, by simp⟩
  · rintro ⟨⟨h1, h2⟩, h3⟩
    refine ⟨p.drop (r.length + 1), ?_⟩
    have e := List.take_append_drop r.length p
    rw [h2] at e
    have e2 : p.drop r.length = 47 :: p.drop (r.length + 1) := by
      rw [List.drop_eq_getElem_cons h1]
      rw [List.getElem?_eq_getElem h1] at h3
      injection h3 with h3; rw [h3]
    rw [e2] at e
    rw [List.append_assoc]; exact e
theorem under_ref {r p : Bs} (h1 : chk r = 0) (h2 : chk p = 0) : under r p = (r == [47] || p == r || (decide (r.length < p.length) && (p.take r.length == r) && (p[r.length]? == some 47))) := by
  rw [under_at h1 h2, stroke_prefix, Bool.or_comm (p == r)]
end Pth

set_option maxHeartbeats 1000000 in
theorem runder_any (r p : ByteArray) (w : World) (hr : r.size ≤ maxLen) (hp : p.size ≤ maxLen) :
    Calls Tryd.prog 14 #[.string r, .string p] w fun e w' => e = .returned (.bool (Pth.under r.data.toList p.data.toList)) ∧ Below w.heap.size w w' := by
  have HA : Hid (∀ (s : ByteArray) (W : World), s.size ≤ maxLen → Calls Tryd.prog 12 #[.string s] W fun e w' => e = .returned (.int .i64 (Pth.chk s.data.toList : Nat)) ∧ Below W.heap.size W w') := fun s W hs => rcheck_any s W hs
  by_cases h1 : Pth.chk r.data.toList = 0
  case neg =>
    have hv : Hid (Pth.under r.data.toList p.data.toList = false) := Pth.under_no1 h1
    have H1 := HA.out r w hr
    generalize Pth.chk r.data.toList = a at *
    obtain ⟨f1, f2, f3, f4⟩ := ne_facts h1
    have H1 : Hid (Calls Tryd.prog 12 #[.string r] w fun e w' => e = .returned (.int .i64 (a : Nat)) ∧ Below w.heap.size w w') := H1
    clear HA h1
    go_enter Tryd.func14, Tryd.ntmps14
    go_wp2_with (go_at_call 12; refine H1.out.mono ?_; rintro e w' ⟨rfl, hbl⟩)
    go_ret
    exact ⟨ret_bool hv.out.symm, hbl⟩
  case pos =>
    have H1 : Hid (Calls Tryd.prog 12 #[.string r] w fun e w' => e = .returned (.int .i64 0) ∧ Below w.heap.size w w') := by have := HA.out r w hr; rw [h1] at this; exact this
    by_cases h2 : Pth.chk p.data.toList = 0
    case neg =>
      have hv : Hid (Pth.under r.data.toList p.data.toList = false) := Pth.under_no2 h2
      have H2 := fun W => HA.out p W hp
      generalize Pth.chk p.data.toList = a at *
      obtain ⟨f1, f2, f3, f4⟩ := ne_facts h2
      have H2 : Hid (∀ W : World, Calls Tryd.prog 12 #[.string p] W fun e w' => e = .returned (.int .i64 (a : Nat)) ∧ Below W.heap.size W w') := H2
      clear HA h1 h2
      go_enter Tryd.func14, Tryd.ntmps14
      go_wp2_with (go_at_call 12; refine H1.out.mono ?_)
      rintro e w1 ⟨rfl, hbl⟩
      go_wp2_with (go_at_call 12; refine (H2.out _).mono ?_)
      rintro e w2 ⟨rfl, hbl2⟩
      go_wp2
      go_ret
      exact ⟨ret_bool hv.out.symm, hbl.trans (hbl2.mono hbl.size)⟩
    case pos =>
      have H2 : Hid (∀ W : World, Calls Tryd.prog 12 #[.string p] W fun e w' => e = .returned (.int .i64 0) ∧ Below W.heap.size W w') := fun W => by have := HA.out p W hp; rw [h2] at this; exact this
      have hv : Hid (Pth.under r.data.toList p.data.toList = (r.data.toList == [47] || p.data.toList == r.data.toList || (decide (r.size < p.size) && ((p.extract 0 r.size).toList == r.data.toList) && (p.data.toList[r.size]? == some 47)))) := by
        show _ = _
        rw [Pth.under_ref h1 h2, Oct.len_eq, Oct.len_eq, tl_eq, cut_data, List.drop_zero, Nat.sub_zero]
      generalize Pth.under r.data.toList p.data.toList = U at *
      rw [← tl_eq r] at hv
      have hps : (p.data.toList == r.toList) = (p.toList == r.toList) := by rw [tl_eq p]
      rw [hps] at hv
      clear hps HA h1 h2
      unfold maxLen at hr hp
      cases g2 : (r.toList == [47])
      case true =>
        have hv2 : Hid (U = true) := by show _ = _; rw [hv.out, g2]; rfl
        clear hv
        go_enter Tryd.func14, Tryd.ntmps14
        go_wp2_with (go_at_call 12; refine H1.out.mono ?_)
        rintro e w1 ⟨rfl, hbl⟩
        go_wp2_with (go_at_call 12; refine (H2.out _).mono ?_)
        rintro e w2 ⟨rfl, hbl2⟩
        go_wp2
        go_ret
        exact ⟨ret_bool hv2.out.symm, hbl.trans (hbl2.mono hbl.size)⟩
      cases g1 : (p.toList == r.toList)
      case true =>
        have hv2 : Hid (U = true) := by show _ = _; rw [hv.out, g1, g2]; rfl
        clear hv
        go_enter Tryd.func14, Tryd.ntmps14
        go_wp2_with (go_at_call 12; refine H1.out.mono ?_)
        rintro e w1 ⟨rfl, hbl⟩
        go_wp2_with (go_at_call 12; refine (H2.out _).mono ?_)
        rintro e w2 ⟨rfl, hbl2⟩
        go_wp2
        go_ret
        exact ⟨ret_bool hv2.out.symm, hbl.trans (hbl2.mono hbl.size)⟩
      by_cases g3 : r.size < p.size
      case neg =>
        have hv2 : Hid (U = false) := by show _ = _; rw [hv.out, g1, g2, decide_eq_false g3]; rfl
        have gd : decide ((r.size : Int) < (p.size : Int)) = false := decide_eq_false (by omega)
        clear hv
        go_enter Tryd.func14, Tryd.ntmps14
        go_wp2_with (go_at_call 12; refine H1.out.mono ?_)
        rintro e w1 ⟨rfl, hbl⟩
        go_wp2_with (go_at_call 12; refine (H2.out _).mono ?_)
        rintro e w2 ⟨rfl, hbl2⟩
        go_wp2
        go_ret
        exact ⟨ret_bool hv2.out.symm, hbl.trans (hbl2.mono hbl.size)⟩
      have gd : decide ((r.size : Int) < (p.size : Int)) = true := decide_eq_true (by omega)
      have gi : (r.size : Int) ≤ (p.size : Int) := by omega
      have hat : p.data.toList[r.size]? = some p[r.size] := by rw [List.getElem?_eq_getElem (by rw [Oct.len_eq]; exact g3)]; rfl
      have hv3 : Hid (U = (((p.extract 0 r.size).toList == r.toList) && decide (p[r.size] = 47))) := by
        show _ = _
        rw [hv.out, g1, g2, decide_eq_true g3, hat, tl_eq r, Bool.false_or, Bool.false_or, Bool.true_and]
        congr 1
      clear hv hat
      cases g4 : ((p.extract 0 r.size).toList == r.toList)
      · have hv2 : Hid (U = false) := by show _ = _; rw [hv3.out, g4]; rfl
        clear hv3
        go_enter Tryd.func14, Tryd.ntmps14
        go_wp2_with (go_at_call 12; refine H1.out.mono ?_)
        rintro e w1 ⟨rfl, hbl⟩
        go_wp2_with (go_at_call 12; refine (H2.out _).mono ?_)
        rintro e w2 ⟨rfl, hbl2⟩
        go_wp2
        go_ret
        exact ⟨ret_bool hv2.out.symm, hbl.trans (hbl2.mono hbl.size)⟩
      · by_cases g5 : p[r.size] = 47
        · have hv2 : Hid (U = true) := by show _ = _; rw [hv3.out, g4, decide_eq_true g5]; rfl
          have gb : ((p[r.size].toNat : Int) == 47) = true := by rw [g5]; rfl
          clear hv3 g5
          go_enter Tryd.func14, Tryd.ntmps14
          go_wp2_with (go_at_call 12; refine H1.out.mono ?_)
          rintro e w1 ⟨rfl, hbl⟩
          go_wp2_with (go_at_call 12; refine (H2.out _).mono ?_)
          rintro e w2 ⟨rfl, hbl2⟩
          go_wp2
          go_ret
          exact ⟨ret_bool hv2.out.symm, hbl.trans (hbl2.mono hbl.size)⟩
        · have hv2 : Hid (U = false) := by show _ = _; rw [hv3.out, g4, decide_eq_false g5]; rfl
          have gb : ((p[r.size].toNat : Int) == 47) = false := by
            rw [beq_eq_false_iff_ne]; intro h; exact g5 (UInt8.toNat_inj.1 (by show p[r.size].toNat = 47; omega))
          clear hv3 g5
          go_enter Tryd.func14, Tryd.ntmps14
          go_wp2_with (go_at_call 12; refine H1.out.mono ?_)
          rintro e w1 ⟨rfl, hbl⟩
          go_wp2_with (go_at_call 12; refine (H2.out _).mono ?_)
          rintro e w2 ⟨rfl, hbl2⟩
          go_wp2
          go_ret
          exact ⟨ret_bool hv2.out.symm, hbl.trans (hbl2.mono hbl.size)⟩
end Go.Proofs.YtkbemfhdamdglaaDoor
