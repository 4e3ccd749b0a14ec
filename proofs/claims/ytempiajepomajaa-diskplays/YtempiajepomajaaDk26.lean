/-
  Layer 6: DiskArmed.
-/
import Derived.Test.YtempiajepomajaaDk25
namespace Go.Proofs.Ytempiajepomajaa
open Go.RowKit

theorem DVar.drew {V : Nat} {W : World} {d : Dsk.Dk} (h : DVar V W d) : DVar V W.drew d := by
  obtain ⟨sa', sn', sc', oa', on', oc', cp', fs', dn', k, hD⟩ := h
  obtain ⟨sa, sc, oa, oc, h1, h2, h3, h4, h5⟩ := hD
  exact ⟨sa', sn', sc', oa', on', oc', cp', fs', dn', k.drew, sa, sc, oa, oc, h1, h2.drew, h3.drew, h4, h5⟩
theorem k_bd (n : Int) : 0 ≤ wrap64 ((IntKind.u64.wrap n).tmod 40) ∧ wrap64 ((IntKind.u64.wrap n).tmod 40) < 40 := by
  have h : 0 ≤ IntKind.u64.wrap n := by
    rw [IntKind.wrap_u64]; omega
  have e : (IntKind.u64.wrap n).tmod 40 = IntKind.u64.wrap n % 40 := Int.tmod_eq_emod_of_nonneg h
  rw [e]
  generalize IntKind.u64.wrap n = m at *
  have : wrap64 (m % 40) = m % 40 := by unfold wrap64; omega
  rw [this]; omega

end Go.Proofs.Ytempiajepomajaa
