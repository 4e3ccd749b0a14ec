/-
  Layer 6: a variable that holds a disk; DiskSafe.
-/
import Derived.Test.YtempiajepomajaaDk20
namespace Go.Proofs.Ytempiajepomajaa
open Go.RowKit

/-- a variable, block V, that holds a disk -/
def DVar (V : Nat) (W : World) (d : Dsk.Dk) : Prop := ∃ sa' sn' sc' oa' on' oc' cp' fs' dn', Rg.Bk V [.slice sa' sn' sc', .slice oa' on' oc', .int .i64 cp', .int .i64 fs', .bool dn'] 28 W ∧ DAt W (.agg #[.slice sa' sn' sc', .slice oa' on' oc', .int .i64 cp', .int .i64 fs', .bool dn']) d
theorem plainD {sa oa : Option Addr} {sn sc on oc : Nat} {cp fs : Int} {dn : Bool} : ∀ u ∈ ([.slice sa sn sc, .slice oa on oc, .int .i64 cp, .int .i64 fs, .bool dn] : List Value), ∀ s, u ≠ .string s := plain5 (fun _ h => by cases h) (fun _ h => by cases h) (fun _ h => by cases h) (fun _ h => by cases h) (fun _ h => by cases h)
theorem DVar.below {V : Nat} {W W' : World} {d : Dsk.Dk} (h : DVar V W d) (hb : Below W.heap.size W W') : DVar V W' d := by
  obtain ⟨sa', sn', sc', oa', on', oc', cp', fs', dn', k, hD⟩ := h
  exact ⟨sa', sn', sc', oa', on', oc', cp', fs', dn', k.below hb k.lt, hD.below hb⟩
theorem DVar.lt {V : Nat} {W : World} {d : Dsk.Dk} (h : DVar V W d) : V < W.heap.size := by
  obtain ⟨sa', sn', sc', oa', on', oc', cp', fs', dn', k, hD⟩ := h
  exact k.lt
theorem DVar.new {W : World} {sa oa : Option Addr} {sn sc on oc : Nat} {cp fs : Int} {dn : Bool} {d : Dsk.Dk} (h : DAt W (.agg #[.slice sa sn sc, .slice oa on oc, .int .i64 cp, .int .i64 fs, .bool dn]) d) : DVar W.heap.size (W.alloc (.cells #[.slice sa sn sc, .slice oa on oc, .int .i64 cp, .int .i64 fs, .bool dn] 28)) d :=
  ⟨sa, sn, sc, oa, on, oc, cp, fs, dn, Rg.Bk.new rfl, h.below (Rg.al1 _ _)⟩
/-- a store into the variable -/
theorem DVar.store {V : Nat} {W : World} {d d' : Dsk.Dk} {sa oa : Option Addr} {sn sc on oc : Nat} {cp fs : Int} {dn : Bool} (h : DVar V W d) (hD : DAt W (.agg #[.slice sa sn sc, .slice oa on oc, .int .i64 cp, .int .i64 fs, .bool dn]) d') :
    DVar V (((((W.setCell ⟨V, 0, none⟩ (.slice sa sn sc)).setCell ⟨V, 1, none⟩ (.slice oa on oc)).setCell ⟨V, 2, none⟩ (.int .i64 cp)).setCell ⟨V, 3, none⟩ (.int .i64 fs)).setCell ⟨V, 4, none⟩ (.bool dn)) d' ∧
    Rg.Only V W (((((W.setCell ⟨V, 0, none⟩ (.slice sa sn sc)).setCell ⟨V, 1, none⟩ (.slice oa on oc)).setCell ⟨V, 2, none⟩ (.int .i64 cp)).setCell ⟨V, 3, none⟩ (.int .i64 fs)).setCell ⟨V, 4, none⟩ (.bool dn)) := by
  obtain ⟨sa', sn', sc', oa', on', oc', cp', fs', dn', k, hD0⟩ := h
  obtain ⟨kE, oE⟩ := Rg.ret5 k rfl (.slice sa sn sc) (.slice oa on oc) (.int .i64 cp) (.int .i64 fs) (.bool dn)
  exact ⟨⟨sa, sn, sc, oa, on, oc, cp, fs, dn, kE, hD.only k plainD oE⟩, oE⟩
/-- a store into another one -/
theorem DVar.other {V V' : Nat} {W W' : World} {d d' : Dsk.Dk} (h : DVar V W d) (h' : DVar V' W d') (hne : V ≠ V') (ho : Rg.Only V' W W') : DVar V W' d := by
  obtain ⟨sa', sn', sc', oa', on', oc', cp', fs', dn', k, hD0⟩ := h
  obtain ⟨sa2, sn2, sc2, oa2, on2, oc2, cp2, fs2, dn2, k2, hD2⟩ := h'
  exact ⟨sa', sn', sc', oa', on', oc', cp', fs', dn', k.same (ho.block V hne), hD0.only k2 plainD ho⟩
/-- what a call's argument says of it -/
structure CFits (c : Dsk.Cl) : Prop where
  n : c.n.size ≤ maxLen
  t : c.t.size ≤ maxLen
  x : c.x.size ≤ maxLen
  m : c.m ≤ 9223372036854775807
theorem play_var (c : Dsk.Cl) (hc : CFits c) (d : Dsk.Dk) (hd : Dsk.Ok d) (hw : Dsk.Wt d + c.x.size + 16 ≤ 10000000000) (W : World) (v : Value) (h : DAt W v d) :
    Calls Try.prog 8 #[v, .agg #[.int .i64 c.k, .string c.n, .string c.t, .string c.x, .int .i64 c.m]] W fun e w' => DEx W (Dsk.play d c) e w' :=
  (play_any v d c W hd hw hc.n hc.t h).mono fun _ _ q => q.ex

namespace Dsk
def kept : ByteArray := ⟨#[107, 101, 112, 116]⟩
theorem kept_ne : ByteArray.empty ≠ kept := by decide
def dS0 (data : ByteArray) : Dk := ⟨[], [⟨1, kept, ByteArray.empty, data⟩], 20000, -1, false⟩
def dS (data : ByteArray) : Dk := ⟨[⟨kept, data⟩], [], 20000, -1, false⟩
theorem write_dS (data : ByteArray) (h : data.size ≤ 5000) : write (new 20000) kept data = (dS0 data, 0) := by
  have h1 : isName kept = true := by decide
  have h2 : (used (files (note (new 20000) ⟨1, kept, ByteArray.empty, data⟩)) : Int) = ((data.size + 16 + 0 : Nat) : Int) := rfl
  have h3 : (new 20000).cap = 20000 := rfl
  unfold write fill
  rw [if_neg (by decide), if_pos h1, h2, h3, if_neg (by omega)]
  rfl
theorem sync_dS (data : ByteArray) : sync (dS0 data) = (dS data, 0) := rfl
theorem dS0_ok (data : ByteArray) (h : data.size ≤ 5000) : Ok (dS0 data) := ⟨List.Pairwise.nil, by show 0 + (data.size + 16 + 0) ≤ 10000000000; omega, by show (-1 : Int) ≤ -1; omega, by show (-1 : Int) ≤ _; omega⟩
theorem dS_kept (data : ByteArray) (h : data.size ≤ 5000) : Kept kept data (dS data) :=
  ⟨⟨List.pairwise_singleton _ _, by show (data.size + 16 + 0) + 0 ≤ 10000000000; omega, by show (-1 : Int) ≤ -1; omega, by show (-1 : Int) ≤ _; omega⟩, by
    show get [⟨kept, data⟩] kept = some data
    rw [get, if_neg (by rw [lt_irrefl]; simp), if_pos rfl], fun o ho => by cases ho⟩
end Dsk
theorem kept_eq {s : ByteArray} : (s.toList == [107, 101, 112, 116]) = decide (s = Dsk.kept) := by
  rw [tl_eq]
  by_cases e : s = Dsk.kept
  · subst e; rfl
  · have : ¬ s.data.toList = [107, 101, 112, 116] := fun c => e (Dsk.ba_ext c)
    simp [e, this]

end Go.Proofs.Ytempiajepomajaa
