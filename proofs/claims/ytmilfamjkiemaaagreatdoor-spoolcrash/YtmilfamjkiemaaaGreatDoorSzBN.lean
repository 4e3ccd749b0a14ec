/-
  What the rows of this seat list of package variables; the world for the witness; the table of powers of ten; bytealg.MaxLen holds some number. Arguments of the statements of layer 18: a call by value, a slice of calls: what the row says of them, in the walk's words. An argument of the statements of layer 18: how many calls a slice may have, out of the form's own reach. SpoolCrash, in full: for any calls, any one call more, and any number of operations kept, the statement answers true.
-/
import Derived.Test.YtmilfamjkiemaaaGreatDoorSzAJ
import Derived.Test.YtmilfamjkiemaaaGreatDoorCards
import Derived.Test.YtmilfamjkiemaaaGreatDoorTie
import Derived.ProofKit
import Derived.OpenShut
import Derived.Deep.DeepHandedRow
import Derived.Lay
import Derived.MakeChecks
import Derived.Shelf.Vars
import Derived.Lib.LaidTab
import Derived.Test.YtmilfamjkiemaaaGreatDoorSzAG
import Derived.Lib.SmallJoins
import Derived.Carry
import Derived.Deep.Slices
import Derived.SizedLaws
import Derived.Test.YtmilfamjkiemaaaGreatDoorSzBM
namespace Go.Proofs.YtmilfamjkiemaaaGreatDoor
open Go.ChangeShapes Go.WideShapes Go.ChangeAt Go.RowKit

theorem own : ownKnob Tryz.prog.godebug = none := by kernel_rfl
theorem gTab : Tryz.prog.globalNamed "internal/strconv.uint64pow10" = some 1 := by kernel_rfl
theorem gTabType : (Tryz.prog.globals[1]?).map (·.type) = some 183 := by kernel_rfl
theorem cellsTab : Tryz.prog.cellsOf 183 = 20 := by kernel_rfl
theorem cellsU64 : Tryz.prog.cellsOf 55 = 1 := by kernel_rfl
theorem pow10_data : (Rows.laid_internal_strconv_uint64pow10 : DataW Unit) = Lib.tabData .u64 Lib.pow10Tab := by kernel_rfl

/-- The list of variables that every row of this seat bears. -/
def laidL : List (String × DataW Unit) := [("math/bits.deBruijn32tab", Rows.laid_math_bits_deBruijn32tab), ("math/bits.deBruijn64tab", Rows.laid_math_bits_deBruijn64tab), ("internal/strconv.uint64pow10", Rows.laid_internal_strconv_uint64pow10), ("unicode/utf8.acceptRanges", Rows.laid_unicode_utf8_acceptRanges), ("unicode/utf8.first", Rows.laid_unicode_utf8_first)]

theorem table {W : World} (h : laidMetH Tryz.prog laidL W) : Lib.TabIs Tryz.prog W "internal/strconv.uint64pow10" .u64 Lib.pow10Tab := by
  have h1 := laidMetH.filter (fun x => x.1 == "internal/strconv.uint64pow10") h
  have e : laidL.filter (fun x => x.1 == "internal/strconv.uint64pow10") = [("internal/strconv.uint64pow10", Rows.laid_internal_strconv_uint64pow10)] := by kernel_rfl
  rw [e, pow10_data, MakeChecks.laidMetH_plain _ _ _ (by kernel_rfl)] at h1
  exact Lib.tabIs_of_head (rest := []) gTab gTabType Tryz.underlying183 Tryz.underlying55 cellsU64 cellsTab h1

theorem laid_met (os : Os) (args : Array Value) : laidMet Tryz.prog laidL ((World.laidAll Tryz.prog os laidL).forCall (fun _ _ => 0) ⟨#[], args, []⟩).memory :=
  laidMet_laidAll args (by kernel_rfl) (by kernel_rfl)

theorem maxOk {W : World} (h : W.ShapedOpen Tryz.prog) : MaxIn W :=
  cell_of_shapedOpen_int (t := 3) (zero := #[.int .i64 0]) (k := .i64) h (of_decide_eq_true (by kernel_rfl)) (by kernel_rfl) rfl (by kernel_rfl) (by kernel_rfl) Tryz.underlying3
end Go.Proofs.YtmilfamjkiemaaaGreatDoor

namespace Go.Proofs.YtmilfamjkiemaaaGreatDoor
open Go.ChangeShapes Go.WideShapes Go.ChangeAt Go.RowKit

theorem laidOutP : laidOutB Tryz.prog = true := by kernel_rfl
theorem sopCells : Tryz.prog.cellsOf 35 = 12 := by kernel_rfl
theorem sopBytes : Tryz.prog.bytesOf 35 = 144 := by kernel_rfl
theorem jobCells : Tryz.prog.cellsOf 33 = 8 := by kernel_rfl
theorem idCells : Tryz.prog.cellsOf 31 = 2 := by kernel_rfl
theorem intCells : Tryz.prog.cellsOf 3 = 1 := by kernel_rfl
theorem strCells : Tryz.prog.cellsOf 9 = 1 := by kernel_rfl
theorem list12 {α : Type} {l : List α} (h : l.length = 12) : ∃ a b c d e f g k m n o p, l = [a, b, c, d, e, f, g, k, m, n, o, p] := by
  match l, h with
  | [a, b, c, d, e, f, g, k, m, n, o, p], _ => exact ⟨a, b, c, d, e, f, g, k, m, n, o, p, rfl⟩
theorem list7 {α : Type} {l : List α} (h : l.length = 7) : ∃ a b c d e f g, l = [a, b, c, d, e, f, g] := by
  match l, h with
  | [a, b, c, d, e, f, g], _ => exact ⟨a, b, c, d, e, f, g, rfl⟩
theorem list5 {α : Type} {l : List α} (h : l.length = 5) : ∃ a b c d e, l = [a, b, c, d, e] := by
  match l, h with
  | [a, b, c, d, e], _ => exact ⟨a, b, c, d, e, rfl⟩
theorem list2 {α : Type} {l : List α} (h : l.length = 2) : ∃ a b, l = [a, b] := by
  match l, h with
  | [a, b], _ => exact ⟨a, b, rfl⟩

section
variable {H : Type} {enc : TypeId × Value → H} {w : World} {base : Nat} {spare : Nat → Bool} {held : Bool}
set_option maxRecDepth 100000 in
theorem open_sopc {fuel : Nat} {cs : List Value} {x : DataW H × List MemPlace} (h : DataW.trod enc Tryz.prog w base spare held fuel 35 cs = some x) :
    ∃ c : Spl.SOp, cs = sopE.enc c ∧ x.2 = [] ∧ SFits c := by
  obtain ⟨xs, n, _, rfl, hl, hlen, hf⟩ := DataW.trod_struct Tryz.underlying35 h
  rw [sopCells] at hl
  obtain ⟨c0, c1, c2, c3, c4, c5, c6, c7, c8, c9, c10, c11, rfl⟩ := list12 hl
  obtain ⟨x0, x1, x2, x3, x4, rfl⟩ := list5 (by simpa using hlen)
  have g0 : DataW.trod enc Tryz.prog w base spare held n 3 (([c0, c1, c2, c3, c4, c5, c6, c7, c8, c9, c10, c11].drop 0).take (Tryz.prog.cellsOf 3)) = some x0 := hf 0 _ rfl
  have g1 : DataW.trod enc Tryz.prog w base spare held n 9 (([c0, c1, c2, c3, c4, c5, c6, c7, c8, c9, c10, c11].drop 1).take (Tryz.prog.cellsOf 9)) = some x1 := hf 1 _ rfl
  have g2 : DataW.trod enc Tryz.prog w base spare held n 33 (([c0, c1, c2, c3, c4, c5, c6, c7, c8, c9, c10, c11].drop 2).take (Tryz.prog.cellsOf 33)) = some x2 := hf 2 _ rfl
  have g3 : DataW.trod enc Tryz.prog w base spare held n 9 (([c0, c1, c2, c3, c4, c5, c6, c7, c8, c9, c10, c11].drop 10).take (Tryz.prog.cellsOf 9)) = some x3 := hf 3 _ rfl
  have g4 : DataW.trod enc Tryz.prog w base spare held n 3 (([c0, c1, c2, c3, c4, c5, c6, c7, c8, c9, c10, c11].drop 11).take (Tryz.prog.cellsOf 3)) = some x4 := hf 4 _ rfl
  rw [intCells] at g0 g4
  rw [strCells] at g1 g3
  rw [jobCells] at g2
  simp only [List.drop_zero, List.drop_succ_cons, List.take_succ_cons, List.take_zero] at g0 g1 g2 g3 g4
  obtain ⟨ys, n', _, rfl, hl', hlen', hf'⟩ := DataW.trod_struct Tryz.underlying33 g2
  obtain ⟨y0, y1, y2, y3, y4, y5, y6, rfl⟩ := list7 (by simpa using hlen')
  have k0 : DataW.trod enc Tryz.prog w base spare held n' 31 (([c2, c3, c4, c5, c6, c7, c8, c9].drop 0).take (Tryz.prog.cellsOf 31)) = some y0 := hf' 0 _ rfl
  have k1 : DataW.trod enc Tryz.prog w base spare held n' 3 (([c2, c3, c4, c5, c6, c7, c8, c9].drop 2).take (Tryz.prog.cellsOf 3)) = some y1 := hf' 1 _ rfl
  have k2 : DataW.trod enc Tryz.prog w base spare held n' 9 (([c2, c3, c4, c5, c6, c7, c8, c9].drop 3).take (Tryz.prog.cellsOf 9)) = some y2 := hf' 2 _ rfl
  have k3 : DataW.trod enc Tryz.prog w base spare held n' 9 (([c2, c3, c4, c5, c6, c7, c8, c9].drop 4).take (Tryz.prog.cellsOf 9)) = some y3 := hf' 3 _ rfl
  have k4 : DataW.trod enc Tryz.prog w base spare held n' 9 (([c2, c3, c4, c5, c6, c7, c8, c9].drop 5).take (Tryz.prog.cellsOf 9)) = some y4 := hf' 4 _ rfl
  have k5 : DataW.trod enc Tryz.prog w base spare held n' 9 (([c2, c3, c4, c5, c6, c7, c8, c9].drop 6).take (Tryz.prog.cellsOf 9)) = some y5 := hf' 5 _ rfl
  have k6 : DataW.trod enc Tryz.prog w base spare held n' 3 (([c2, c3, c4, c5, c6, c7, c8, c9].drop 7).take (Tryz.prog.cellsOf 3)) = some y6 := hf' 6 _ rfl
  rw [idCells] at k0
  rw [intCells] at k1 k6
  rw [strCells] at k2 k3 k4 k5
  simp only [List.drop_zero, List.drop_succ_cons, List.take_succ_cons, List.take_zero] at k0 k1 k2 k3 k4 k5 k6
  obtain ⟨zs, n2, _, rfl, hl2, hlen2, hf2⟩ := DataW.trod_struct Tryz.underlying31 k0
  obtain ⟨z0, z1, rfl⟩ := list2 (by simpa using hlen2)
  have j0 : DataW.trod enc Tryz.prog w base spare held n2 3 (([c2, c3].drop 0).take (Tryz.prog.cellsOf 3)) = some z0 := hf2 0 _ rfl
  have j1 : DataW.trod enc Tryz.prog w base spare held n2 3 (([c2, c3].drop 1).take (Tryz.prog.cellsOf 3)) = some z1 := hf2 1 _ rfl
  rw [intCells] at j0 j1
  simp only [List.drop_zero, List.drop_succ_cons, List.take_succ_cons, List.take_zero] at j0 j1
  obtain ⟨a0, e0, p0, _⟩ := DataW.trod_int Tryz.underlying3 g0
  obtain ⟨a1, e1, p1, s1⟩ := DataW.trod_string Tryz.underlying9 g1
  obtain ⟨a2, e2, p2, _⟩ := DataW.trod_int Tryz.underlying3 j0
  obtain ⟨a3, e3, p3, _⟩ := DataW.trod_int Tryz.underlying3 j1
  obtain ⟨a4, e4, p4, _⟩ := DataW.trod_int Tryz.underlying3 k1
  obtain ⟨a5, e5, p5, s5⟩ := DataW.trod_string Tryz.underlying9 k2
  obtain ⟨a6, e6, p6, s6⟩ := DataW.trod_string Tryz.underlying9 k3
  obtain ⟨a7, e7, p7, s7⟩ := DataW.trod_string Tryz.underlying9 k4
  obtain ⟨a8, e8, p8, s8⟩ := DataW.trod_string Tryz.underlying9 k5
  obtain ⟨a9, e9, p9, s9⟩ := DataW.trod_int Tryz.underlying3 k6
  obtain ⟨a10, e10, p10, s10⟩ := DataW.trod_string Tryz.underlying9 g3
  obtain ⟨a11, e11, p11, s11⟩ := DataW.trod_int Tryz.underlying3 g4
  simp only [List.cons.injEq, and_true] at e0 e1 e2 e3 e4 e5 e6 e7 e8 e9 e10 e11
  subst e0 e1 e2 e3 e4 e5 e6 e7 e8 e9 e10 e11 p0 p1 p2 p3 p4 p5 p6 p7 p8 p9 p10 p11
  exact ⟨⟨a0, a1, ⟨a2, a3, a4, a5, a6, a7, a8, a9⟩, a10, a11⟩, rfl, by simp, s1, s5, s6, s7, s8, s10, (bounds_i64 s11).1, (bounds_i64 s11).2, (bounds_i64 s9).1, (bounds_i64 s9).2⟩
set_option maxRecDepth 100000 in
theorem open_sop {r : Reach} {b0 : Nat} {v : Value} {d : DataW H} {p : List MemPlace} (hv : Value.okWide Tryz.prog w r b0 35 v) (h : DataW.Trod enc Tryz.prog w base spare held 35 v d p) :
    ∃ c : Spl.SOp, v = .agg (oc c).toArray ∧ p = [] ∧ SFits c := by
  obtain ⟨cs, rfl, _⟩ := okWide_struct Tryz.underlying35 hv
  obtain ⟨fuel, hf⟩ := h
  obtain ⟨c, e, e2, hc⟩ := open_sopc hf
  refine ⟨c, ?_, e2, hc⟩
  have : cs.toList = sopE.enc c := by simpa [Value.cells] using e
  congr 1
  apply Array.toList_inj.1
  rw [this]; rfl
end

theorem sat_flat {W : World} {b off : Nat} {l : List Spl.SOp} (h : ∀ (i : Nat) (hi : i < l.length), Rg.At W b (off + i * 12) (sopE.enc l[i])) : Rg.At W b off (sopE.flat l) := by
  intro t u ht
  have hlt : t < l.length * 12 := by
    rw [show l.length * 12 = (sopE.flat l).length from (sopE.flat_length l).symm]
    rcases Nat.lt_or_ge t (sopE.flat l).length with h' | h'
    · exact h'
    · rw [List.getElem?_eq_none h'] at ht; cases ht
  have hi : t / 12 < l.length := by omega
  have e := sopE.flat_get hi (t := t % 12) (Nat.mod_lt _ (by decide)) []
  rw [List.append_nil, show t / 12 * sopE.m + t % 12 = t by show t / 12 * 12 + t % 12 = t; omega, ht] at e
  have := h (t / 12) hi (t % 12) u e.symm
  rw [show off + t / 12 * 12 + t % 12 = off + t by omega] at this
  exact this
theorem open_sops {H : Type} {enc : TypeId × Value → H} {W : World} {a : Option Addr} {len cap : Nat} {d : DataW H} {ps : List MemPlace}
    (h : DataW.Trod enc Tryz.prog W 0 (fun _ => true) true 22 (.slice a len cap) d ps) :
    ∃ l : List Spl.SOp, l.length = len ∧ (∀ c ∈ l, SFits c) ∧ SRow0 W a l ∧ len ≤ maxLen := by
  obtain ⟨fuel, hf⟩ := h
  rcases Go.Deep.open_slice Tryz.underlying22 hf with ⟨hcs, _⟩ | ⟨ad, len', cap', m, n, D, Pl, hcs, _, hlc, hcm, hmm, hd, hx⟩
  · simp [Value.cells] at hcs
    obtain ⟨rfl, rfl, rfl⟩ := hcs
    exact ⟨[], rfl, (fun _ h => by cases h), .inl rfl, Nat.zero_le _⟩
  · simp [Value.cells] at hcs
    obtain ⟨rfl, rfl, rfl⟩ := hcs
    simp only [if_true] at hmm
    by_cases h0 : len = 0
    · subst h0
      exact ⟨[], rfl, (fun _ h => by cases h), .inl rfl, Nat.zero_le _⟩
    · rw [sopCells] at hx
      have each : ∀ i, i < len → ∃ c : Spl.SOp, SFits c ∧ ∀ o, o < 12 → W.cell? ((ad.add (i * 12)).add o) = (sopE.enc c)[o]? := fun i hi => by
        obtain ⟨cs', h1, h2⟩ := hx i (by omega)
        obtain ⟨c, rfl, _, hc⟩ := open_sopc h2
        obtain ⟨_, _, hcell⟩ := World.cells?_some h1
        exact ⟨c, hc, fun o ho => hcell o ho⟩
      obtain ⟨b, off, spot⟩ := ad
      have hspot : spot = none := by
        obtain ⟨c, _, hc⟩ := each 0 (by omega)
        have := hc 0 (by omega)
        simpa [Addr.add] using World.cell?_spot (show W.cell? ⟨b, off, spot⟩ = some _ by simpa [Addr.add, sopE, oc] using this)
      subst hspot
      have each2 : ∀ i, i < len → ∃ c : Spl.SOp, SFits c ∧ Rg.At W b (off + i * 12) (sopE.enc c) := fun i hi => by
        obtain ⟨c, hc, hcell⟩ := each i hi
        refine ⟨c, hc, fun t u ht => ?_⟩
        have ht5 : t < 12 := by
          rcases Nat.lt_or_ge t (sopE.enc c).length with h' | h'
          · exact h'
          · rw [List.getElem?_eq_none h'] at ht; cases ht
        rw [← ht, ← hcell t ht5]
        rw [Addr.add_lit, Addr.add_lit]
      have hf' : ∃ f : Nat → Spl.SOp, ∀ i, i < len → SFits (f i) ∧ Rg.At W b (off + i * 12) (sopE.enc (f i)) := by
        refine ⟨fun i => if h : i < len then (each2 i h).choose else Spl.SOp.zero, fun i hi => ?_⟩
        simp only [hi, dif_pos]
        exact (each2 i hi).choose_spec
      obtain ⟨f, hf'⟩ := hf'
      refine ⟨(List.range len).map f, by simp, ?_, .inr ⟨b, off, rfl, ?_, sat_flat fun i hi => ?_⟩, by omega⟩
      · intro c hc
        rw [List.mem_map] at hc
        obtain ⟨i, hi, rfl⟩ := hc
        exact (hf' i (List.mem_range.1 hi)).1
      · exact World.block_lt_of_cell? _ _ ((hf' 0 (by omega)).2 0 _ rfl)
      · have hi' : i < len := by simpa using hi
        rw [List.getElem_map, List.getElem_range]
        exact (hf' i hi').2
end Go.Proofs.YtmilfamjkiemaaaGreatDoor

namespace Go.Proofs.YtmilfamjkiemaaaGreatDoor
open Go.ChangeShapes Go.WideShapes Go.ChangeAt Go.RowKit
theorem sops_form {H : Type} {enc : TypeId × Value → H} {W : World} {a : Option Addr} {len cap : Nat} {d : DataW H} {ps : List MemPlace}
    (h : DataW.Trod enc Tryz.prog W 0 (fun _ => true) true 22 (.slice a len cap) d ps) : len = 0 ∨ ∃ elems spare, d = .slice elems spare ∧ elems.length = len := by
  obtain ⟨fuel, hf⟩ := h
  rcases Go.Deep.open_slice Tryz.underlying22 hf with ⟨hcs, _⟩ | ⟨ad, len', cap', m, n, D, Pl, hcs, _, hlc, hcm, hmm, hd, hx⟩
  · simp [Value.cells] at hcs
    obtain ⟨rfl, rfl, rfl⟩ := hcs
    exact .inl rfl
  · simp [Value.cells] at hcs
    obtain ⟨rfl, rfl, rfl⟩ := hcs
    exact .inr ⟨_, _, congrArg Prod.fst hd, by simp⟩
theorem sops_len {H : Type} {ts : List TypeId} {ds : List (DataW H)} (hz : (DataW.weightsEach Tryz.prog ts ds).all (· ≤ reachBytes) = true) {j : Nat} {d : DataW H} {len : Nat} (ht : ts[j]? = some 22) (hd : ds[j]? = some d)
    (h : len = 0 ∨ ∃ elems spare, d = .slice elems spare ∧ elems.length = len) : len ≤ 977343669106 := by
  rcases h with rfl | ⟨elems, spare, rfl, rfl⟩
  · omega
  · have := sized_slice hz ht hd Tryz.underlying22
    rw [sopBytes] at this
    have e : reachBytes = 140737488351232 := by decide
    rw [e] at this
    omega
end Go.Proofs.YtmilfamjkiemaaaGreatDoor

namespace Go.Proofs.YtmilfamjkiemaaaGreatDoor.spoolCrash
open Go.ChangeShapes Go.WideShapes Go.ChangeAt Go.RowKit

set_option maxRecDepth 100000 in
theorem contract (H : Type) (enc : TypeId × Value → H) (W : World) (base : Nat) (args : Array Value) (ds gs : List (DataW H)) (before : List MemPlace)
    (hval : ∀ (j : Nat) t v, Tryz.f6.params[j]? = some t → args[j]? = some v → Value.okWide Tryz.prog W .any base t v)
    (hW : DataW.Whole enc Tryz.prog Tryz.f6.params.toList Rows.spoolCrashSpec.vars false W args.toList ds gs before) (hz : (DataW.weightsEach Tryz.prog (Tryz.f6.params.toList ++ (OpenSpec.ofChange Rows.spoolCrashSpec).bare.plain.varTypes Tryz.prog) (ds ++ gs)).all (· ≤ reachBytes) = true) (hL : laidMetH Tryz.prog Rows.spoolCrashRow.laid W) (hS : W.ShapedOpen Tryz.prog) :
    Calls Tryz.prog 6 args W fun e W' => ∃ v, e = .returned v ∧ Rows.spoolCrashSpec.post enc Tryz.prog Tryz.f6 false true false false W args v W' := by
  have hW' := hW
  obtain ⟨p, q, hA0, hV, rfl, hfz, hnd⟩ := hW
  have hA : DataW.TrodAll enc Tryz.prog W 0 (fun _ => true) true Tryz.f6.params.toList args.toList ds p := hA0
  rw [Tryz.params6] at hA hval hz
  obtain ⟨v0, vs0, d0, ds0, p0, q0, hargs0, rfl, rfl, h0, r0⟩ := trodAll_cons hA
  obtain ⟨v1, vs1, d1, ds1, p1, q1, hargs1, rfl, rfl, h1, r1⟩ := trodAll_cons r0
  obtain ⟨v2, vs2, d2, ds2, p2, q2, hargs2, rfl, rfl, h2, r2⟩ := trodAll_cons r1
  obtain ⟨rfl, rfl, rfl⟩ := trodAll_nil r2
  subst hargs1
  subst hargs2
  obtain rfl : args = #[v0, v1, v2] := by cases args; simp_all
  obtain ⟨rfl, rfl⟩ := trodVars_none hV
  obtain ⟨a0, len0, cap0, rfl⟩ := okWide_slice Tryz.underlying22 (hval 0 22 v0 rfl rfl)
  obtain ⟨l0, rfl, fit0, row0, le0⟩ := open_sops h0
  have len0 := sops_len hz (j := 0) (by rfl) (by rfl) (sops_form h0)
  obtain ⟨c1, rfl, rfl, w1⟩ := open_sop (hval 1 35 v1 rfl rfl) h1
  obtain ⟨x2, rfl, rfl, rfl, w2⟩ := open_int Tryz.underlying3 (hval 2 3 v2 rfl rfl) h2
  clear hA0
  simp only [List.append_nil] at hW'
  have hlt : ∀ x ∈ p0, x.block < W.heap.size := fun x hx => by simpa using hW'.lt x hx
  refine (crash_walk a0 cap0 l0 len0 fit0 c1 w1 x2 (bounds_i64 w2).1 (bounds_i64 w2).2 W row0 (⟨table hL, maxOk hS⟩)).mono fun e W' ⟨he, hb⟩ => ?_
  subst he
  refine ⟨_, rfl, _, _, _, [], p0 ++ [], [], hW', ?_, ?_, rfl, hb.frame _, fun h => by cases h⟩
  · exact trodAll_cons_mk (shut_bool Tryz.underlying4 _) trodAll_mk0
  · exact trodAll_cons_mk (Below.trod laidOutP (by kernel_rfl) (of_decide_eq_true (by kernel_rfl)) h0 hb hlt) (trodAll_cons_mk (Below.trod laidOutP (by kernel_rfl) (of_decide_eq_true (by kernel_rfl)) h1 hb (fun _ h => by cases h)) (trodAll_cons_mk (shut_int Tryz.underlying3 w2) trodAll_mk0))

theorem reads (os : Os) {H : Type} (enc : TypeId × Value → H) : ∃ places, DataW.whole enc Tryz.prog ((World.laidAll Tryz.prog os laidL).forCall (fun _ _ => 0) ⟨#[], #[.slice none 0 0, .agg #[.int .i64 0, .string ⟨#[]⟩, .int .i64 0, .int .i64 0, .int .i64 0, .string ⟨#[]⟩, .string ⟨#[]⟩, .string ⟨#[]⟩, .string ⟨#[]⟩, .int .i64 0, .string ⟨#[]⟩, .int .i64 0], .int .i64 0], []⟩).memory Tryz.f6.params.toList Rows.spoolCrashSpec.vars false (#[.slice none 0 0, .agg #[.int .i64 0, .string ⟨#[]⟩, .int .i64 0, .int .i64 0, .int .i64 0, .string ⟨#[]⟩, .string ⟨#[]⟩, .string ⟨#[]⟩, .string ⟨#[]⟩, .int .i64 0, .string ⟨#[]⟩, .int .i64 0], .int .i64 0] : Array Value).toList 8 = some ([.nil, .agg [.lit (.int .i64 0), .lit (.string []), .agg [.agg [.lit (.int .i64 0), .lit (.int .i64 0)], .lit (.int .i64 0), .lit (.string []), .lit (.string []), .lit (.string []), .lit (.string []), .lit (.int .i64 0)], .lit (.string []), .lit (.int .i64 0)], .lit (.int .i64 0)], [], places) :=
  ⟨[], by kernel_rfl⟩

set_option maxRecDepth 100000 in
theorem lifted (os : Os) (started : os.Started) (H : Type) (enc : TypeId × Value → H) (F : Stop.Interp) :
    ReturnsInHanded {} Tryz.checked os 6 .any ((OpenSpec.ofChange Rows.spoolCrashSpec).preRow enc Tryz.prog Tryz.f6 Rows.spoolCrashRow.domain false Rows.spoolCrashRow.laid) (((OpenSpec.ofChange Rows.spoolCrashSpec).at F).post enc Tryz.prog Tryz.f6 false true false false) := by
  obtain ⟨places, hx⟩ := reads os enc
  refine returnsInHanded_of_row (C := Tryz.checked) (s := OpenSpec.ofChange Rows.spoolCrashSpec) own started (by kernel_rfl) Tryz.func6
    (witness_row_at (enc := enc) (C := Tryz.checked) false (World.laidAll Tryz.prog os laidL) #[.slice none 0 0, .agg #[.int .i64 0, .string ⟨#[]⟩, .int .i64 0, .int .i64 0, .int .i64 0, .string ⟨#[]⟩, .string ⟨#[]⟩, .string ⟨#[]⟩, .string ⟨#[]⟩, .int .i64 0, .string ⟨#[]⟩, .int .i64 0], .int .i64 0] (World.laidAll_os _ _ _) (by kernel_rfl) (by kernel_rfl) (by kernel_rfl)
      (OpenSpec.preRow_of_cond 8 hx (by kernel_rfl) (fun k hk => by cases hk) (by kernel_rfl) (laid_met os _))) ?_
  intro W base args ds gs before hval hW _ _ hz hL hS _
  exact contract H enc W base args ds gs before hval hW hz hL hS

theorem said : Rows.SpoolCrashSaid :=
  OpenClaim.holds_of_cond 6 Tryz.f6 rfl rfl rfl rfl rfl rfl rfl ⟨rfl, rfl, rfl, rfl, rfl⟩ rfl rfl rfl rfl rfl (by kernel_rfl) Tryz.func6 (by kernel_rfl)
    (of_decide_eq_true (by kernel_rfl)) (by unfold Func.isWrapper; first | (rw [if_pos (by decide +kernel)]; kernel_rfl) | (rw [if_neg (by decide +kernel)]; exact ⟨rfl, rfl⟩))
    (fun os started H enc _ F => by rw [OpenClaim.pre_eq_preRow]; exact lifted os started H enc F)

theorem plain (f : FuncId) (fn : Func) (hf : Tryz.pinned.checked.prog.funcNamed Rows.spoolCrashRow.func = some f) (hfn : Tryz.pinned.checked.prog.funcs[f]? = some fn) :
    false = Tryz.pinned.checked.prog.looks [] ∧ ∀ (j : Nat) t, fn.params[j]? = some t → Tryz.pinned.checked.prog.wantsStandIn t = false := by
  obtain rfl : f = 6 := Option.some.inj ((show Tryz.prog.funcNamed Rows.spoolCrashRow.func = some 6 by kernel_rfl).symm.trans hf) |>.symm
  obtain rfl : fn = Tryz.f6 := (Option.some.inj (Tryz.func6.symm.trans hfn)).symm
  refine ⟨by kernel_rfl, fun j t ht => ?_⟩
  rw [Tryz.params6] at ht
  have hm : t = 22 ∨ t = 35 ∨ t = 3 := by simpa using Array.mem_of_getElem? ht
  rcases hm with rfl | rfl | rfl
  · exact (show Tryz.prog.wantsStandIn 22 = false by kernel_rfl)
  · exact (show Tryz.prog.wantsStandIn 35 = false by kernel_rfl)
  · exact (show Tryz.prog.wantsStandIn 3 = false by kernel_rfl)
end Go.Proofs.YtmilfamjkiemaaaGreatDoor.spoolCrash
namespace Go.Proofs.YtmilfamjkiemaaaGreatDoor
theorem spoolCrash_card : Rows.SpoolCrashCardSaid :=
  Claim7.holds_tied_plain_at .later [] _ _ _ _ spoolCrash.said (fun _ h => by cases h) (by kernel_rfl) (fun _ h => by cases h) spoolCrash_row_tie rfl ⟨rfl, rfl⟩ (by kernel_rfl) rfl spoolCrash.plain (by kernel_rfl)
#print axioms spoolCrash_card
end Go.Proofs.YtmilfamjkiemaaaGreatDoor
