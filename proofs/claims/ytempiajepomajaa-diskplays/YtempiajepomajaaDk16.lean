/-
  Layer 6: List; Same.
-/
import Derived.Test.YtempiajepomajaaDk15
import Derived.OwnWalk
namespace Go.Proofs.Ytempiajepomajaa
open Go.RowKit

/-- a text's cell -/
def strE : Rg.El ByteArray := { enc := fun s => [.string s], m := 1, hm := fun _ => rfl, pos := by decide, one := fun x u hu => by simp at hu; subst hu; rfl, ty := 9 }
theorem str_at {W : World} {b o : Nat} {s : ByteArray} (h : Rg.At W b o (strE.enc s)) : W.cell? ⟨b, o, none⟩ = some (.string s) := h 0 _ rfl
theorem infoStr : (Try.prog.info? 9).map (fun i => (i.zero, i.size, i.bytes)) = some (some (.string ByteArray.empty), 1, 16) := by kernel_rfl
theorem infoStr' : ∃ i0, Try.prog.info? 9 = some i0 ∧ i0.zero = some (.string ByteArray.empty) ∧ i0.size = 1 ∧ i0.bytes = 16 := by
  have := infoStr
  cases h : Try.prog.info? 9 with
  | none => rw [h] at this; cases this
  | some i => rw [h] at this; simp only [Option.map_some, Option.some.injEq, Prod.mk.injEq] at this; exact ⟨i, rfl, this.1, this.2.1, this.2.2⟩
theorem made_str (n : Nat) : (madeCells (Value.string ByteArray.empty).cells (n * 1)).toList = strE.flat (List.replicate n ByteArray.empty) := by
  have h1 : (Value.string ByteArray.empty).cells = #[.string ByteArray.empty] := rfl
  rw [h1]
  apply List.ext_getElem
  · rw [strE.flat_length]; simp [madeCells]; show n = n * 1; omega
  · intro i h2 h3
    have hi : i < n := by rw [strE.flat_length] at h3; simp at h3; simpa [strE] using h3
    have e := strE.flat_get (l := List.replicate n ByteArray.empty) (i := i) (t := 0) (by simpa using hi) (by decide) []
    rw [List.append_nil, show i * strE.m + 0 = i by show i * 1 + 0 = i; omega, List.getElem?_eq_getElem h3] at e
    simp only [List.getElem_replicate] at e
    have e2 : (strE.flat (List.replicate n ByteArray.empty))[i] = .string ByteArray.empty := by
      have : (strE.enc ByteArray.empty)[0]? = some (.string ByteArray.empty) := rfl
      rw [this] at e; exact Option.some.inj e
    rw [e2]
    simp [madeCells, Nat.mod_one]
theorem str_put {base g cap : Nat} {W : World} {l : List ByteArray} {rest : List Value} (h : strE.Own base W g cap l rest) {i : Nat} (hi : i < l.length) (s : ByteArray) : strE.Own base (W.setCell ⟨g, i, none⟩ (.string s)) g cap (l.set i s) rest := by
  have s0 := h.set1 i (.string s)
  refine h.re (cs := (strE.flat l ++ rest).set i (.string s)) s0 ?_ (by simpa using h.le) (by simp)
  have e := strE.flat_set hi (t := 0) (by decide) rest (.string s)
  rw [show i * strE.m + 0 = i by show i * 1 + 0 = i; omega] at e
  rw [e, strE.flat_put hi]
  rfl
/-- behind List -/
def ListPost (w : World) (l : List ByteArray) (e : Ending) (w' : World) : Prop := ∃ a c, e = .returned (.slice a l.length c) ∧ strE.Row w' a l ∧ l.length ≤ c ∧ Below w.heap.size w w'
theorem names_step (nm : List ByteArray) (i n : Nat) (hn : nm.length = n) (hi : i < n) : (nm.take i ++ List.replicate (n - i) ByteArray.empty).set i (nm[i]'(by omega)) = nm.take (i + 1) ++ List.replicate (n - (i + 1)) ByteArray.empty := by
  have e1 : (nm.take i).length = i := by rw [List.length_take]; omega
  rw [List.set_append_right _ _ (by omega), e1, Nat.sub_self, show n - i = (n - (i + 1)) + 1 by omega, List.replicate_succ, List.set_cons_zero]
  rw [List.take_succ_eq_append_getElem (by omega : i < nm.length), List.append_assoc]
  rfl

set_option maxHeartbeats 2000000 in
set_option maxRecDepth 100000 in
theorem list_any (v : Value) (d : Dsk.Dk) (w : World) (hd : Dsk.Ok d) (h : DAt w v d) :
    Calls Try.prog 12 #[v] w fun e w' => ListPost w ((Dsk.files d).map (·.n)) e w' := by
  obtain ⟨i0, hi, hz0, hz1, hz2⟩ := infoStr'
  have HF : Hid (∀ W, Below w.heap.size w W → Calls Try.prog 19 #[v] W fun e w' => ∃ a c, e = .returned (.slice a (Dsk.files d).length c) ∧ fileE.Row w' a (Dsk.files d) ∧ Below w.heap.size w w') := fun W hW => (files_any v d W hd (h.below hW)).mono fun e w' ⟨v, h1, h2, h3⟩ => by
    obtain ⟨a, c, h4, h5⟩ := h2.shape
    exact ⟨a, c, by rw [h1, h4], h5, hW.trans (h3.mono hW.size)⟩
  have hul := hd.files
  have hll := Dsk.len_used (Dsk.files d)
  obtain ⟨sa, sc, oa, oc, rfl, hS, hO, hsc, hoc⟩ := h
  generalize Dsk.files d = l at *
  obtain ⟨safe, ops, cap, fuse, down⟩ := d
  dsimp only at *
  clear hS hO
  unfold dval at *
  generalize safe.length = SN at *
  generalize ops.length = ON at *
  obtain ⟨N, hN⟩ : ∃ N, N = l.length := ⟨_, rfl⟩
  have hN1 : N ≤ 1000000000 := by omega
  rw [← hN] at HF
  have hnl : (l.map (·.n)).length = N := by rw [List.length_map, hN]
  replace hN := Rg.hid hN
  clear hd hul hll
  go_enter Try.func12, Try.ntmps12
  go_wp2_with (go_at_call 19; refine (HF.out _ (Rg.al1 _ _)).mono ?_)
  rintro e w2 ⟨a, c, rfl, hr, hb⟩
  replace hr := Rg.hid hr
  obtain ⟨w3, hrun, hown, hgr⟩ := run_make_full (P := Try.prog) w2 w2.heap.size 37 9 i0 _ 1 Try.underlying37 hi hz0 hz1 .i64 .i64 N (by rw [hz2]; omega) (by unfold maxLen; omega) (Nat.le_refl _)
  rw [made_str] at hown
  obtain ⟨g, cap', rest, hv, ho⟩ := Rg.El.Own.of (E := strE) hown (fun h => by cases h) (by simp)
  simp only [List.length_replicate, Value.slice.injEq, Option.some.injEq, Addr.mk.injEq] at hv
  obtain ⟨⟨hg, _, _⟩, _, hc'⟩ := hv
  subst hg
  subst hc'
  have hb23 : Below w2.heap.size w2 w3 := (Below.refl _ _).grown hgr (Nat.le_refl _) (fun k hk => by cases hk)
  have ho' := Rg.hid (show strE.Own w2.heap.size w3 w2.heap.size N ((l.map (·.n)).take 0 ++ List.replicate (N - 0) ByteArray.empty) rest from ho)
  have hbs := hb.size
  clear hown hgr hi hz0 hz1 hz2 HF ho
  go_wp2
  clear hrun
  go_loopw [14] (fun vi wr => ∃ i : Nat, i ≤ N ∧ vi = .int .i64 i ∧ Hid (strE.Own w2.heap.size wr w2.heap.size N ((l.map (·.n)).take i ++ List.replicate (N - i) ByteArray.empty) rest) ∧ Below w2.heap.size w2 wr) (fun vi _ => N - (intOf vi).toNat)
  case atStart => exact ⟨0, Nat.zero_le _, rfl, ho', hb23⟩
  case round =>
    obtain ⟨i, hin, rfl, hown, hbw⟩ := hrel
    by_cases hlt : i < N
    · have hil : i < l.length := by rw [← hN.out]; exact hlt
      obtain ⟨b, o, rfl, hb', hat⟩ : ∃ b o, a = some ⟨b, o, none⟩ ∧ b < w2.heap.size ∧ Rg.At w2 b o (fileE.flat l) := by
        rcases hr.out with ⟨_, h⟩ | h
        · rw [h] at hil; simp at hil
        · exact h
      have hnm : (l.map (·.n))[i]'(by rw [hnl]; exact hlt) = l[i].n := by rw [List.getElem_map]
      have hst := names_step (l.map (·.n)) i N hnl hlt
      rw [hnm] at hst
      have at1 : Rg.At wr b (o + i * 2) (fileE.enc l[i]) := (hat.elem hil).below hbw hb'
      have hLl : i < ((l.map (·.n)).take i ++ List.replicate (N - i) ByteArray.empty).length := by simp; omega
      have q0 := str_at (s := ((l.map (·.n)).take i ++ List.replicate (N - i) ByteArray.empty)[i]) (by have := hown.out.row.elem hLl; rw [Nat.zero_add, show i * strE.m = i by show i * 1 = i; omega] at this; exact this)
      have q1 := hown.out.thaw i
      have hfin : Hid (strE.Own w2.heap.size (wr.setCell ⟨w2.heap.size, i, none⟩ (.string l[i].n)) w2.heap.size N ((l.map (·.n)).take (i + 1) ++ List.replicate (N - (i + 1)) ByteArray.empty) rest) := by
        rw [← hst]; exact str_put hown.out hLl l[i].n
      have hz : w2.heap.size < wr.heap.size := hown.out.lt
      generalize ((l.map (·.n)).take i ++ List.replicate (N - i) ByteArray.empty)[i] = old at *
      clear hst hnm hLl hown
      generalize l[i] = x at *
      obtain ⟨xn, xd⟩ := x
      obtain ⟨c0, c1⟩ := file_at at1
      dsimp only at hfin
      have hz0 : (0 : Int) ≤ (i : Int) := by omega
      have hz1 : (i : Int) < (N : Int) := by omega
      clear at1 hat hil hr
      go_wp2
      go_roundw
      case rel => exact ⟨i + 1, by omega, by go_num, hfin.out.below (Rg.al1 _ _), (hbw.setCell (Nat.le_refl _) _).alloc (by have := hbw.size; simp [World.setCell]; omega) _⟩
      case measure => simp [intOf]; omega
    · obtain rfl : i = N := by omega
      go_wp2
      go_ret
      have hE := hown.out
      rw [Nat.sub_self, List.replicate_zero, List.append_nil, List.take_of_length_le (by omega)] at hE
      refine ⟨some ⟨w2.heap.size, 0, none⟩, i, by rw [hnl]; rfl, hE.toRow, by rw [hnl]; exact Nat.le_refl _, Rg.chain hb hbw⟩

namespace Dsk
/-- P6.7 -/
def sameD (a b : Dk) : Bool := decide (a.safe = b.safe) && decide (a.ops = b.ops) && decide (a.cap = b.cap) && decide (a.fuse = b.fuse) && decide (a.down = b.down)
theorem sameD_refl (a : Dk) : sameD a a = true := by simp [sameD]
end Dsk

set_option maxHeartbeats 2000000 in
set_option maxRecDepth 100000 in
theorem sameD_any (v v2 : Value) (d d2 : Dsk.Dk) (w : World) (hd : Dsk.Ok d) (h : DAt w v d) (h2 : DAt w v2 d2) :
    Calls Try.prog 14 #[v, v2] w fun e w' => VPost (.bool (Dsk.sameD d d2)) w e w' := by
  obtain ⟨sa, sc, oa, oc, rfl, hS, hO, hsc, hoc⟩ := h
  obtain ⟨sa2, sc2, oa2, oc2, rfl, hS2, hO2, hsc2, hoc2⟩ := h2
  have hsl := Dsk.len_used d.safe
  have hw := hd.wt
  have hol := hd.ops
  have HE : Hid (∀ W, Below w.heap.size w W → Calls Try.prog 42 #[.slice sa d.safe.length sc, .slice sa2 d2.safe.length sc2] W fun e w' => VPost (.bool (decide (d.safe = d2.safe))) W e w') := fun W hW => eqFiles_any sa sc sa2 sc2 d.safe d2.safe W (by omega) (hS.below hW) (hS2.below hW)
  have HO : Hid (∀ W, Below w.heap.size w W → Calls Try.prog 43 #[.slice oa d.ops.length oc, .slice oa2 d2.ops.length oc2] W fun e w' => VPost (.bool (decide (d.ops = d2.ops))) W e w') := fun W hW => eqOps_any oa oc oa2 oc2 d.ops d2.ops W hol (hO.below hW) (hO2.below hW)
  have hr : Hid (Dsk.sameD d d2 = (decide (d.safe = d2.safe) && decide (d.ops = d2.ops) && decide (d.cap = d2.cap) && decide (d.fuse = d2.fuse) && decide (d.down = d2.down))) := rfl
  generalize Dsk.sameD d d2 = r at *
  generalize decide (d.safe = d2.safe) = B1 at *
  generalize decide (d.ops = d2.ops) = B2 at *
  obtain ⟨safe, ops, cap, fuse, down⟩ := d
  obtain ⟨safe2, ops2, cap2, fuse2, down2⟩ := d2
  dsimp only at *
  clear hS hO hS2 hO2 hd hsl hw hol hsc hoc hsc2 hoc2
  unfold dval
  generalize safe.length = SN at *
  generalize ops.length = ON at *
  generalize safe2.length = SN2 at *
  generalize ops2.length = ON2 at *
  have hcap : (cap == cap2) = decide (cap = cap2) := by by_cases e : cap = cap2 <;> simp [e]
  have hfus : (fuse == fuse2) = decide (fuse = fuse2) := by by_cases e : fuse = fuse2 <;> simp [e]
  have hdow : (down == down2) = decide (down = down2) := by by_cases e : down = down2 <;> simp [e]
  cases B1
  case false =>
    have hr' : Hid (false = r) := by show _ = _; rw [hr.out]; simp
    clear hr hcap hfus hdow HO
    go_enter Try.func14, Try.ntmps14
    go_wp2_with (go_at_call 42; refine (HE.out _ (Rg.al2 _ _ _)).mono ?_)
    rintro e w1 ⟨rfl, hb⟩
    go_wp2
    go_ret
    exact ⟨ret_bool hr'.out, Rg.chain (Rg.al2 _ _ _) hb⟩
  case true =>
    cases B2
    case false =>
      have hr' : Hid (false = r) := by show _ = _; rw [hr.out]; simp
      clear hr hcap hfus hdow
      go_enter Try.func14, Try.ntmps14
      go_wp2_with (go_at_call 42; refine (HE.out _ (Rg.al2 _ _ _)).mono ?_)
      rintro e w1 ⟨rfl, hb⟩
      have hbw := Rg.chain (Rg.al2 _ _ _) hb
      obtain ⟨hc, hf⟩ := Rg.bcell hb
      clear HE
      go_wp2_with (go_at_call 43; refine (HO.out _ hbw).mono ?_)
      rintro e w2 ⟨rfl, hb2⟩
      go_wp2
      go_ret
      exact ⟨ret_bool hr'.out, Rg.chain hbw hb2⟩
    case true =>
      have hr' : Hid (((cap == cap2) && (fuse == fuse2) && (down == down2)) = r) := by show _ = _; rw [hr.out, hcap, hfus, hdow]; simp
      clear hr hcap hfus hdow
      have key : ∀ B3 B4 B5, (cap == cap2) = B3 → (fuse == fuse2) = B4 → (down == down2) = B5 → Calls Try.prog 14 #[.agg #[.slice sa SN sc, .slice oa ON oc, .int .i64 cap, .int .i64 fuse, .bool down], .agg #[.slice sa2 SN2 sc2, .slice oa2 ON2 oc2, .int .i64 cap2, .int .i64 fuse2, .bool down2]] w fun e w' => VPost (.bool r) w e w' := by
        intro B3 B4 B5 h3 h4 h5
        have hr2 : Hid ((B3 && B4 && B5) = r) := by show _ = _; rw [← hr'.out, h3, h4, h5]
        clear hr'
        cases B3 <;> cases B4 <;> cases B5
        all_goals
          have hr3 := hr2.out
          simp only [Bool.and_true, Bool.and_false, Bool.and_self] at hr3
          subst hr3
          clear hr2
          go_enter Try.func14, Try.ntmps14
          go_wp2_with (go_at_call 42; refine (HE.out _ (Rg.al2 _ _ _)).mono ?_)
          rintro e w1 ⟨rfl, hb⟩
          have hbw := Rg.chain (Rg.al2 _ _ _) hb
          obtain ⟨hc, hf⟩ := Rg.bcell hb
          go_wp2_with (go_at_call 43; refine (HO.out _ hbw).mono ?_)
          rintro e w2 ⟨rfl, hb2⟩
          have hbz := hb2.size
          have hz1 : w.heap.size + 1 < w1.heap.size := by have := hb.size; simp at this; omega
          have hz0 : w.heap.size < w1.heap.size := by omega
          obtain ⟨hc2, hf2⟩ := Rg.bcell hb2
          go_wp2
          go_ret
          exact ⟨rfl, Rg.chain hbw hb2⟩
      exact key _ _ _ rfl rfl rfl
end Go.Proofs.Ytempiajepomajaa
