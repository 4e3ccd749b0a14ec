/-
  Layer 6: List, with what lies behind it; append of calls and of names; mathematics of DiskOthers.
-/
import Derived.Test.YtempiajepomajaaDk26
namespace Go.Proofs.Ytempiajepomajaa
open Go.RowKit

/-- behind List: a row that is full -/
def ListFull (w : World) (l : List ByteArray) (e : Ending) (w' : World) : Prop := ∃ g, e = .returned (.slice (some ⟨g, 0, none⟩) l.length l.length) ∧ strE.Row w' (some ⟨g, 0, none⟩) l ∧ Below w.heap.size w w'

set_option maxHeartbeats 2000000 in
set_option maxRecDepth 100000 in
theorem list_full (v : Value) (d : Dsk.Dk) (w : World) (hd : Dsk.Ok d) (h : DAt w v d) :
    Calls Try.prog 12 #[v] w fun e w' => ListFull w ((Dsk.files d).map (·.n)) e w' := by
  obtain ⟨i0, hi, hz0, hz1, hz2⟩ := infoStr'
  have HF : Hid (∀ W, Below w.heap.size w W → Calls Try.prog 19 #[v] W fun e w' => ∃ a c, e = .returned (.slice a (Dsk.files d).length c) ∧ fileE.Row w' a (Dsk.files d) ∧ Below w.heap.size w w') := fun W hW => (files_any v d W hd (h.below hW)).mono fun e w' ⟨v, h1, h2, h3⟩ => by
    obtain ⟨a, c, h4, h5⟩ := h2.shape
    exact ⟨a, c, by rw [h1, h4], h5, hW.trans (h3.mono hW.size)⟩
  have hul := hd.files
  have hll := Dsk.len_used (Dsk.files d)
  obtain ⟨sa, sc, oa, oc, rfl, hS, hO, hsc, hoc⟩ := h
  generalize Dsk.files d = l at *
  obtain ⟨safe, ops, cap, fuse, down⟩ := d
  dsimp only at *
  clear hS hO
  unfold dval at *
  generalize safe.length = SN at *
  generalize ops.length = ON at *
  obtain ⟨N, hN⟩ : ∃ N, N = l.length := ⟨_, rfl⟩
  have hN1 : N ≤ 1000000000 := by omega
  rw [← hN] at HF
  have hnl : (l.map (·.n)).length = N := by rw [List.length_map, hN]
  replace hN := Rg.hid hN
  clear hd hul hll
  go_enter Try.func12, Try.ntmps12
  go_wp2_with (go_at_call 19; refine (HF.out _ (Rg.al1 _ _)).mono ?_)
  rintro e w2 ⟨a, c, rfl, hr, hb⟩
  replace hr := Rg.hid hr
  obtain ⟨w3, hrun, hown, hgr⟩ := run_make_full (P := Try.prog) w2 w2.heap.size 37 9 i0 _ 1 Try.underlying37 hi hz0 hz1 .i64 .i64 N (by rw [hz2]; omega) (by unfold maxLen; omega) (Nat.le_refl _)
  rw [made_str] at hown
  obtain ⟨g, cap', rest, hv, ho⟩ := Rg.El.Own.of (E := strE) hown (fun h => by cases h) (by simp)
  simp only [List.length_replicate, Value.slice.injEq, Option.some.injEq, Addr.mk.injEq] at hv
  obtain ⟨⟨hg, _, _⟩, _, hc'⟩ := hv
  subst hg
  subst hc'
  have hb23 : Below w2.heap.size w2 w3 := (Below.refl _ _).grown hgr (Nat.le_refl _) (fun k hk => by cases hk)
  have ho' := Rg.hid (show strE.Own w2.heap.size w3 w2.heap.size N ((l.map (·.n)).take 0 ++ List.replicate (N - 0) ByteArray.empty) rest from ho)
  have hbs := hb.size
  clear hown hgr hi hz0 hz1 hz2 HF ho
  go_wp2
  clear hrun
  go_loopw [14] (fun vi wr => ∃ i : Nat, i ≤ N ∧ vi = .int .i64 i ∧ Hid (strE.Own w2.heap.size wr w2.heap.size N ((l.map (·.n)).take i ++ List.replicate (N - i) ByteArray.empty) rest) ∧ Below w2.heap.size w2 wr) (fun vi _ => N - (intOf vi).toNat)
  case atStart => exact ⟨0, Nat.zero_le _, rfl, ho', hb23⟩
  case round =>
    obtain ⟨i, hin, rfl, hown, hbw⟩ := hrel
    by_cases hlt : i < N
    · have hil : i < l.length := by rw [← hN.out]; exact hlt
      obtain ⟨b, o, rfl, hb', hat⟩ : ∃ b o, a = some ⟨b, o, none⟩ ∧ b < w2.heap.size ∧ Rg.At w2 b o (fileE.flat l) := by
        rcases hr.out with ⟨_, h⟩ | h
        · rw [h] at hil; simp at hil
        · exact h
      have hnm : (l.map (·.n))[i]'(by rw [hnl]; exact hlt) = l[i].n := by rw [List.getElem_map]
      have hst := names_step (l.map (·.n)) i N hnl hlt
      rw [hnm] at hst
      have at1 : Rg.At wr b (o + i * 2) (fileE.enc l[i]) := (hat.elem hil).below hbw hb'
      have hLl : i < ((l.map (·.n)).take i ++ List.replicate (N - i) ByteArray.empty).length := by simp; omega
      have q0 := str_at (s := ((l.map (·.n)).take i ++ List.replicate (N - i) ByteArray.empty)[i]) (by have := hown.out.row.elem hLl; rw [Nat.zero_add, show i * strE.m = i by show i * 1 = i; omega] at this; exact this)
      have q1 := hown.out.thaw i
      have hfin : Hid (strE.Own w2.heap.size (wr.setCell ⟨w2.heap.size, i, none⟩ (.string l[i].n)) w2.heap.size N ((l.map (·.n)).take (i + 1) ++ List.replicate (N - (i + 1)) ByteArray.empty) rest) := by
        rw [← hst]; exact str_put hown.out hLl l[i].n
      have hz : w2.heap.size < wr.heap.size := hown.out.lt
      generalize ((l.map (·.n)).take i ++ List.replicate (N - i) ByteArray.empty)[i] = old at *
      clear hst hnm hLl hown
      generalize l[i] = x at *
      obtain ⟨xn, xd⟩ := x
      obtain ⟨c0, c1⟩ := file_at at1
      dsimp only at hfin
      have hz0 : (0 : Int) ≤ (i : Int) := by omega
      have hz1 : (i : Int) < (N : Int) := by omega
      clear at1 hat hil hr
      go_wp2
      go_roundw
      case rel => exact ⟨i + 1, by omega, by go_num, hfin.out.below (Rg.al1 _ _), (hbw.setCell (Nat.le_refl _) _).alloc (by have := hbw.size; simp [World.setCell]; omega) _⟩
      case measure => simp [intOf]; omega
    · obtain rfl : i = N := by omega
      go_wp2
      go_ret
      have hE := hown.out
      rw [Nat.sub_self, List.replicate_zero, List.append_nil, List.take_of_length_le (by omega)] at hE
      refine ⟨w2.heap.size, by rw [hnl]; rfl, hE.toRow, Rg.chain hb hbw⟩


theorem infoCall : (Try.prog.info? 31).map (fun i => (i.zero, i.size, i.bytes)) = some (some (.agg #[.int .i64 0, .string ByteArray.empty, .string ByteArray.empty, .string ByteArray.empty, .int .i64 0]), 5, 64) := by kernel_rfl
theorem infoCall' : ∃ i0, Try.prog.info? 31 = some i0 ∧ i0.zero = some (.agg #[.int .i64 0, .string ByteArray.empty, .string ByteArray.empty, .string ByteArray.empty, .int .i64 0]) ∧ i0.size = 5 ∧ i0.bytes = 64 := by
  have := infoCall
  cases h : Try.prog.info? 31 with
  | none => rw [h] at this; cases this
  | some i => rw [h] at this; simp only [Option.map_some, Option.some.injEq, Prod.mk.injEq] at this; exact ⟨i, rfl, this.1, this.2.1, this.2.2⟩
/-- 'append([]Op{}, l...)' -/
theorem app_calls {w W : World} {a : Option Addr} {ca : Nat} {l : List Dsk.Cl} (hrow : CRow0 w a l) (hnil : a = none → l = []) (hlen : l.length * 64 ≤ 140737488351232) (hb : Below w.heap.size w W) (g0 : Nat) (hg : Rg.Bk g0 [] 31 W) (hg0 : w.heap.size ≤ g0) :
    ∃ v' W', (Builtin.append_ #[22, 22] 22 #[.slice (some ⟨g0, 0, none⟩) 0 0, .slice a l.length ca]).run Try.prog W = .ok v' W' ∧ ∃ g cap rest, v' = .slice (some ⟨g, 0, none⟩) l.length cap ∧ callE.Own w.heap.size W' g cap l rest ∧ Below W.heap.size W W' := by
  obtain ⟨i0, hi, hz0, hz1, hz2⟩ := infoCall'
  have hown : W.ownsRow w.heap.size 31 5 (.slice (some ⟨g0, 0, none⟩) 0 0) 0 [] := ⟨rfl, .inr ⟨g0, 0, #[], rfl, hg0, hg, Nat.le_refl _, Nat.zero_le _, rfl, rfl⟩⟩
  have hOwn0 : callE.Own w.heap.size W g0 0 [] [] := ⟨hg, hg0, Nat.le_refl _, Nat.zero_le _, Nat.le_refl _⟩
  cases a with
  | none =>
    obtain rfl := hnil rfl
    refine ⟨.slice (some ⟨g0, 0, none⟩) 0 0, W, ?_, g0, 0, [], rfl, hOwn0, Below.refl _ _⟩
    simp [Builtin.append_, run_underlying Try.underlying22, sizeOf, typeInfo, hi, Builtin.lenOf, Builtin.firstCells, storeCells]
  | some ad =>
    have hnews : ∀ j u, (callE.flat l)[j]? = some u → W.cell? (ad.add j) = some u := by
      rcases hrow with rfl | ⟨b, o, e, hlt, hat⟩
      · intro j u hj; simp [Rg.El.flat] at hj
      · cases e; exact (hat.below hb hlt).add
    have hfl : (callE.flat l).length = l.length * 5 := callE.flat_length l
    obtain ⟨v', W', hrun, hown', hgr, hiff⟩ := run_append_own (P := Try.prog) W w.heap.size 22 22 31 i0 _ 5 64 Try.underlying22 hi hz0 hz1 hz2 rfl (by decide) (.slice (some ⟨g0, 0, none⟩) 0 0) 0 [] hown ad l.length ca (callE.flat l) hfl hnews (callE.flat_cells l) (by unfold maxLen; omega) (by omega) hb.size
    rw [Nat.zero_add, List.nil_append] at hown'
    have hv : ¬ v' = .slice none 0 0 := fun e => by have := (hiff.1 e).1; cases this
    obtain ⟨g, cap, rest, e, ho⟩ := Rg.El.Own.of (E := callE) hown' hv rfl
    by_cases h0 : l = []
    · subst h0
      have hr2 : (Builtin.append_ #[22, 22] 22 #[.slice (some ⟨g0, 0, none⟩) 0 0, .slice (some ad) 0 ca]).run Try.prog W = .ok (.slice (some ⟨g0, 0, none⟩) 0 0) W := by
        simp [Builtin.append_, run_underlying Try.underlying22, sizeOf, typeInfo, hi, Builtin.lenOf, Builtin.firstCells, storeCells, loadCells, loadCellsFrom]
      exact ⟨.slice (some ⟨g0, 0, none⟩) 0 0, W, hr2, g0, 0, [], rfl, hOwn0, Below.refl _ _⟩
    · have hpos : 0 < l.length := List.length_pos_iff.2 h0
      obtain ⟨v2, W2, hrun2, hown2, hgr2⟩ := run_append_arg_grows (P := Try.prog) W 22 22 31 i0 _ 5 64 Try.underlying22 hi hz0 hz1 hz2 rfl (by decide) ⟨g0, 0, none⟩ 0 0 [] rfl (fun j u hj => by simp at hj) ad l.length ca (callE.flat l) hfl hnews (by omega) (by unfold maxLen; omega) (by omega)
      rw [Nat.zero_add, List.nil_append] at hown2
      have hv2 : ¬ v2 = .slice none 0 0 := fun e => by
        subst e
        rcases hown2.2 with ⟨_, e⟩ | ⟨_, _, _, e, _⟩
        · omega
        · cases e
      obtain ⟨g, cap, rest, e, ho⟩ := Rg.El.Own.of (E := callE) hown2 hv2 rfl
      exact ⟨v2, W2, hrun2, g, cap, rest, e, ⟨ho.blk, Nat.le_trans hb.size ho.new, ho.le, ho.max, ho.fit⟩, (Below.refl _ _).grown hgr2 (Nat.le_refl _) (fun k hk => by cases hk)⟩
/-- 'append(.., o)' -/
theorem app_one {base g cap : Nat} {W : World} {l : List Dsk.Cl} {rest : List Value} (h : callE.Own base W g cap l rest) (c : Dsk.Cl) (hlen : l.length * 64 ≤ 140737488351232) (hB : base ≤ W.heap.size) (ad : Nat) (hc : Rg.At W ad 0 (callE.enc c)) :
    ∃ v' W', (Builtin.append_ #[22, 22] 22 #[.slice (some ⟨g, 0, none⟩) l.length cap, .slice (some ⟨ad, 0, none⟩) 1 1]).run Try.prog W = .ok v' W' ∧ ∃ g' cap', v' = .slice (some ⟨g', 0, none⟩) (l.length + 1) cap' ∧ CRow0 W' (some ⟨g', 0, none⟩) (l ++ [c]) ∧ Below base W W' := by
  obtain ⟨i0, hi, hz0, hz1, hz2⟩ := infoCall'
  obtain ⟨g', cap', rest', W', hrun, hown, _, hb, _⟩ := h.append (P := Try.prog) c 22 22 i0 _ 64 Try.underlying22 hi hz0 hz1 hz2 rfl ⟨ad, 0, none⟩ 1 hc.add hB (by omega) (by unfold maxLen; omega)
  exact ⟨_, W', hrun, g', cap', rfl, .inr ⟨g', 0, rfl, hown.lt, hown.row⟩, hb⟩
/-- 'append(List(d), List(c)...)' -/
theorem app_names {W : World} {g g2 : Nat} {x y : List ByteArray} (hx : strE.Row W (some ⟨g, 0, none⟩) x) (hy : strE.Row W (some ⟨g2, 0, none⟩) y) (hl : x.length + y.length ≤ 10000000000) :
    ∃ v' W', (Builtin.append_ #[37, 37] 37 #[.slice (some ⟨g, 0, none⟩) x.length x.length, .slice (some ⟨g2, 0, none⟩) y.length y.length]).run Try.prog W = .ok v' W' ∧ ∃ g' cap', v' = .slice (some ⟨g', 0, none⟩) (x.length + y.length) cap' ∧ strE.Row W' (some ⟨g', 0, none⟩) (x ++ y) ∧ Below W.heap.size W W' := by
  obtain ⟨i0, hi, hz0, hz1, hz2⟩ := infoStr'
  have hfx : (strE.flat x).length = x.length * 1 := strE.flat_length x
  have hfy : (strE.flat y).length = y.length * 1 := strE.flat_length y
  by_cases h0 : y = []
  · subst h0
    refine ⟨.slice (some ⟨g, 0, none⟩) (x.length + 0) x.length, W, ?_, g, x.length, rfl, by rw [List.append_nil]; exact hx, Below.refl _ _⟩
    simp [Builtin.append_, run_underlying Try.underlying37, sizeOf, typeInfo, hi, Builtin.lenOf, Builtin.firstCells, storeCells, loadCells, loadCellsFrom]
  · have hpos : 0 < y.length := List.length_pos_iff.2 h0
    obtain ⟨v2, W2, hrun2, hown2, hgr2⟩ := run_append_arg_grows (P := Try.prog) W 37 37 9 i0 _ 1 16 Try.underlying37 hi hz0 hz1 hz2 rfl (by decide) ⟨g, 0, none⟩ x.length x.length (strE.flat x) hfx hx.some.2.add ⟨g2, 0, none⟩ y.length y.length (strE.flat y) hfy hy.some.2.add (by omega) (by unfold maxLen; omega) (by omega)
    rw [← strE.flat_append] at hown2
    have hv2 : ¬ v2 = .slice none 0 0 := fun e => by
      subst e
      rcases hown2.2 with ⟨_, e⟩ | ⟨_, _, _, e, _⟩
      · omega
      · cases e
    obtain ⟨g', cap', rest, e, ho⟩ := Rg.El.Own.of (E := strE) hown2 hv2 (by simp)
    exact ⟨v2, W2, hrun2, g', cap', by rw [e, List.length_append], ho.toRow, (Below.refl _ _).grown hgr2 (Nat.le_refl _) (fun k hk => by cases hk)⟩

namespace Dsk
/-- no other file is touched -/
theorem act_other {l : List Fl} (c : Cl) (n : ByteArray) (h : Srt l) (h1 : c.n ≠ n) (h2 : c.t ≠ n) : get (after l (actO c)) n = get l n := by
  unfold actO
  by_cases k1 : c.k = 1
  · rw [if_pos k1]
    show get (put l ⟨c.n, c.x⟩) n = _
    rw [get_put _ _ h]; exact if_neg h1
  rw [if_neg k1]
  by_cases k2 : c.k = 2
  · rw [if_pos k2]
    show get (put l ⟨c.n, _⟩) n = _
    rw [get_put _ _ h]; exact if_neg h1
  rw [if_neg k2]
  by_cases k3 : c.k = 3
  · rw [if_pos k3]; exact after_other _ n h h1 h2
  rw [if_neg k3]
  show get (cut l c.n) n = _
  rw [get_cut _ _ h, if_neg h1]
theorem Ever.others {d : Dk} (h : Ever d) (c : Cl) (hk : c.k ≤ 5) (n : ByteArray) (h1 : c.n ≠ n) (h2 : c.t ≠ n) : read (Dsk.play d c).1 n = read d n := by
  have key : ∀ d' : Dk, d'.down = false → get (files d') n = get (files d) n → read d' n = read d n := fun d' e1 e2 => by
    unfold read
    rw [if_neg (by rw [e1]; simp), if_neg (by rw [h.down]; simp), e2]
  by_cases hk4 : 1 ≤ c.k ∧ c.k ≤ 4
  · rw [play_act d c hk4.1 hk4.2]
    by_cases e : actE d c = 0
    · rw [if_pos e, operate_ever h.fuse]
      refine key _ h.down ?_
      show get (files (note d (actO c))) n = _
      rw [files_note h.down]
      exact act_other c n h.ok.fsrt h1 h2
    · rw [if_neg e]
  · rcases play_other d c hk4 with ⟨_, e⟩ | ⟨e, _⟩ | ⟨e, _⟩ | ⟨e, _⟩ | ⟨_, e⟩
    · rw [e, sync_ever h.fuse h.down]
      refine key _ h.down ?_
      show get (files (settle d d.ops.length)) n = _
      rw [files_settle h.down]
    · omega
    · omega
    · omega
    · rw [e]
      refine key _ rfl ?_
      show get (files (start d)) n = _
      have e2 : files (start d) = files d := by
        unfold files
        rw [if_neg (by show ¬ (false = true); simp), if_neg (by rw [h.down]; simp)]
        rfl
      rw [e2]
end Dsk
end Go.Proofs.Ytempiajepomajaa
