/-
  Walks of layer 3: the document's System and Id, ofSystem, Note, File.
-/
import Derived.Test.YtgcbaflaidehnaaDoorNam4
namespace Go.Proofs.YtgcbaflaidehnaaDoor
open Go.RowKit

namespace Nam
theorem okc_dg {c : UInt8} (h0 : 48 ≤ (c.toNat : Int)) (h1 : (c.toNat : Int) ≤ 57) : okc c = true := by simp [okc, dg, h0, h1]
theorem okc_sm {c : UInt8} (h0 : 97 ≤ (c.toNat : Int)) (h1 : (c.toNat : Int) ≤ 122) : okc c = true := by simp [okc, sm, h0, h1]
theorem dg_sm {c : UInt8} (h0 : 97 ≤ (c.toNat : Int)) : dg (c.toNat : Int) = false := by
  have : ¬ (c.toNat : Int) ≤ 57 := by omega
  unfold dg; rw [decide_eq_false this, Bool.and_false]
theorem okc_bad {c : UInt8} (h : (c.toNat : Int) < 48 ∨ (57 < (c.toNat : Int) ∧ (c.toNat : Int) < 97) ∨ 122 < (c.toNat : Int)) : okc c = false := by
  cases e : okc c with
  | false => rfl
  | true => simp [okc, dg, sm] at e; omega
theorem system_head {s : ByteArray} (hp : 0 < s.size) (h : (s[0].toNat : Int) < 97 ∨ 122 < (s[0].toNat : Int)) : system s.data.toList = false := by
  by_cases hd : dg (s[0].toNat : Int) = true
  · exact system_dig (by rw [Oct.headD_at s hp]; exact hd)
  · refine system_not (Oct.mem_at s 0 hp) ?_
    apply okc_bad
    simp [dg] at hd
    omega
end Nam

theorem enc_small {g : Int} (h0 : 0 ≤ g) (h1 : g < 128) : Utf8.encode g = ⟨#[Nam.byteOf g]⟩ := by
  have hv : Utf8.valid g = true := by simp [Utf8.valid]; omega
  have hc : g.toNat < 128 := by omega
  unfold Utf8.encode
  simp only [hv, if_true, hc]
  rfl
theorem ba_list (s : ByteArray) : s = ⟨s.data.toList.toArray⟩ := rfl
theorem sysT_ba (k : Int) (s : ByteArray) : (⟨#[Nam.byteOf k]⟩ ++ ⟨#[46]⟩ ++ s : ByteArray) = ⟨(Nam.sysT k s.data.toList).toArray⟩ := by
  exact (congrArg (· ++ s) (ba_app [Nam.byteOf k] [46])).trans (ba_app _ s.data.toList)
end Go.Proofs.YtgcbaflaidehnaaDoor
