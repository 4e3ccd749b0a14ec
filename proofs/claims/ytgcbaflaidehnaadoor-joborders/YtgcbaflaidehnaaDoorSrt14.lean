/-
  Layer 5: the document's Less; copy of rows of jobs.
-/
import Derived.Test.YtgcbaflaidehnaaDoorSrt13
import Derived.Laws.CopyRow
namespace Go.Proofs.YtgcbaflaidehnaaDoor
open Go.RowKit

set_option maxHeartbeats 1000000 in
theorem rless_any (g n g' n' : Int) (w : World) : Calls Tryd.prog 14 #[.agg #[.int .i64 g, .int .i64 n], .agg #[.int .i64 g', .int .i64 n']] w fun e w' => e = .returned (.bool (Nam.less g n g' n')) ∧ Below w.heap.size w w' := by
  by_cases h : g = g'
  · have hr : Hid (Nam.less g n g' n' = decide (n < n')) := by show _ = _; simp [Nam.less, h]
    have d : (g != g') = false := by simp [h]
    have d' : (g == g') = true := by simp [h]
    clear h
    go_enter Tryd.func14, Tryd.ntmps14
    go_wp2
    go_ret
    exact ⟨ret_bool hr.out.symm, below_alloc2 _ _ _⟩
  · have hr : Hid (Nam.less g n g' n' = decide (g < g')) := by show _ = _; simp [Nam.less, h]
    have d : (g != g') = true := by simp [h]
    have d' : (g == g') = false := by simp [h]
    clear h
    go_enter Tryd.func14, Tryd.ntmps14
    go_wp2
    go_ret
    exact ⟨ret_bool hr.out.symm, below_alloc2 _ _ _⟩

theorem run_copy8 (w : World) (dT sT ty elem : TypeId) (g o dLen dCap : Nat) (a : Addr) (sLen sCap : Nat) (cur : Array Value) (t : TypeId) (cs : List Value)
    (hu : Tryd.prog.underlying dT = some (.slice elem)) (hs : (Tryd.prog.info? elem).map (·.size) = some 8)
    (hg : w.heap[g]? = some (.cells cur t (0, 0))) (hn : cs.length = Nat.min sLen dLen * 8)
    (hsrc : ∀ j v, cs[j]? = some v → w.cell? (a.add j) = some v) (hfit : o + cs.length ≤ cur.size) (h1 : ∀ v ∈ cs, v.oneCell' = true) :
    (Builtin.copy_ #[dT, sT] ty #[.slice (some ⟨g, o, none⟩) dLen dCap, .slice (some a) sLen sCap]).run Tryd.prog w =
      .ok (goInt (Nat.min sLen dLen)) (w.setRow g (cur.toList.take o ++ cs ++ cur.toList.drop (o + cs.length)).toArray) := by
  have hl := run_loadCells_list (P := Tryd.prog) w a cs hsrc
  have hst := run_storeCells_at Tryd.prog g o t cs 0 cur w hg (by simpa using hfit) h1
  cases hq : Tryd.prog.info? elem with
  | none => simp [hq] at hs
  | some i =>
    have hi : i.size = 8 := by simpa [hq] using hs
    rw [hn] at hl
    simp [Builtin.copy_, run_underlying hu, Builtin.lenOf, Builtin.firstCells, sizeOf, typeInfo, hq, hi, hl, hst, hn]
end Go.Proofs.YtgcbaflaidehnaaDoor
