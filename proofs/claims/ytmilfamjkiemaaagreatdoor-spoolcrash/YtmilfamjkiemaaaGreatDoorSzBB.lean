/-
  Layer 18: a row of jobs of one's own whose spare cells are empty, beside a disk: an append leaves the disk's rows as they are. Layer 18: mathematics: names are short; what a spool's disk is. No walk in it. Layer 18: mathematics: a disk on which jobs are queued, one behind the other. No walk in it.
-/
import Derived.Test.YtmilfamjkiemaaaGreatDoorSzBA
import Derived.Test.YtmilfamjkiemaaaGreatDoorSzAS
import Derived.Test.YtmilfamjkiemaaaGreatDoorSzAZ
namespace Go.Proofs.YtmilfamjkiemaaaGreatDoor
open Go.RowKit
/-- spare cells hold no text -/
def Bare (rest : List Value) : Prop := ∀ u ∈ rest, ∀ s : ByteArray, u = .string s → s = ⟨#[]⟩
/-- none, or a row of one's own, its spare cells bare -/
def HZ (base : Nat) (W : World) (A : Option Addr) (cap : Nat) (S : List Spl.Hd) : Prop := (A = none ∧ S = [] ∧ cap = 0) ∨ ∃ g rest, A = some ⟨g, 0, none⟩ ∧ heldE.Own base W g cap S rest ∧ Bare rest
theorem HZ.nil {base : Nat} {W : World} : HZ base W none 0 [] := .inl ⟨rfl, rfl, rfl⟩
theorem HZ.below {base : Nat} {W W' : World} {A : Option Addr} {cap : Nat} {S : List Spl.Hd} (h : HZ base W A cap S) (hb : Below W.heap.size W W') : HZ base W' A cap S := by
  rcases h with h | ⟨g, rest, h1, h2, h3⟩
  · exact .inl h
  · exact .inr ⟨g, rest, h1, h2.below hb, h3⟩
theorem HZ.only {base R : Nat} {W W' : World} {A : Option Addr} {cap : Nat} {S : List Spl.Hd} (h : HZ base W A cap S) (hb : Rg.Only R W W') (hR : ∀ g, A = some ⟨g, 0, none⟩ → g ≠ R) : HZ base W' A cap S := by
  rcases h with h | ⟨g, rest, h1, h2, h3⟩
  · exact .inl h
  · exact .inr ⟨g, rest, h1, h2.same (hb.block g (hR g h1)), h3⟩
theorem HZ.lt {base g : Nat} {W : World} {A : Option Addr} {cap : Nat} {S : List Spl.Hd} (h : HZ base W A cap S) (hg : A = some ⟨g, 0, none⟩) : base ≤ g ∧ g < W.heap.size := by
  subst hg
  rcases h with ⟨h, _⟩ | ⟨g', rest, h1, h2, h3⟩
  · cases h
  · cases h1; exact ⟨h2.new, h2.lt⟩
theorem HZ.row {base : Nat} {W : World} {A : Option Addr} {cap : Nat} {S : List Spl.Hd} (h : HZ base W A cap S) : heldE.Row W A S := by
  rcases h with ⟨rfl, rfl, _⟩ | ⟨g, rest, rfl, h2, _⟩
  · exact .inl ⟨rfl, rfl⟩
  · exact h2.toRow
theorem HZ.le {base : Nat} {W : World} {A : Option Addr} {cap : Nat} {S : List Spl.Hd} (h : HZ base W A cap S) : S.length ≤ cap := by
  rcases h with ⟨rfl, rfl, rfl⟩ | ⟨g, rest, rfl, h2, _⟩
  · exact Nat.le_refl _
  · exact h2.le
theorem zeroH_bare : ∀ j, j < 10 → ∀ s : ByteArray, zeroH[j]! = .string s → s = ⟨#[]⟩ := by
  intro j hj s h
  match j, hj with
  | 0, _ => exact (Value.string.inj h).symm
  | 1, _ => cases h
  | 2, _ => cases h
  | 3, _ => cases h
  | 4, _ => exact (Value.string.inj h).symm
  | 5, _ => exact (Value.string.inj h).symm
  | 6, _ => exact (Value.string.inj h).symm
  | 7, _ => exact (Value.string.inj h).symm
  | 8, _ => cases h
  | 9, _ => exact (Value.string.inj h).symm
theorem zeros_bare (n : Nat) : Bare (Builtin.zeroCells zeroH n).toList := by
  intro u hu s hs
  unfold Builtin.zeroCells at hu
  rw [Array.toList_map, List.mem_map] at hu
  obtain ⟨i, _, e⟩ := hu
  exact zeroH_bare (i % zeroH.size) (Nat.mod_lt _ (by decide)) s (e.trans hs)
/-- a new row -/
theorem own_new {base n : Nat} {W : World} (S : List Spl.Hd) (hB : base ≤ W.heap.size) (hn : S.length ≤ n) (hm : n ≤ maxLen) :
    heldE.Own base (W.drew.alloc (.cells ((heldE.flat S).toArray ++ Builtin.zeroCells zeroH (n - S.length)) 42)) W.heap.size n S (Builtin.zeroCells zeroH (n - S.length)).toList := by
  refine ⟨?_, hB, hn, hm, ?_⟩
  · have := heap_alloc_new W.drew (.cells ((heldE.flat S).toArray ++ Builtin.zeroCells zeroH (n - S.length)) 42)
    rw [show W.heap.size = W.drew.heap.size from rfl, this]
    congr 2
    apply Array.ext'
    simp
  · have h1 : (Builtin.zeroCells zeroH (n - S.length)).toList.length = (n - S.length) * 10 := by rw [Array.length_toList, size_zeroCells]; rfl
    rw [List.length_append, heldE.flat_length, h1]
    show n * 10 ≤ S.length * 10 + (n - S.length) * 10
    omega
/-- in its place -/
theorem inplace {base g cap : Nat} {W W' : World} {S : List Spl.Hd} {x : Spl.Hd} {rest rest' : List Value} (h : heldE.Own base W g cap S rest) (hz : Bare rest) (h' : heldE.Own base W' g cap (S ++ [x]) rest') (ho : Rg.Only g W W')
    {v : Value} {d : Dsk.Dk} (hd : DAt W v d) (h0 : d.ops = []) (hne : ∀ f ∈ d.safe, f.n ≠ ⟨#[]⟩) (hex : ∃ f ∈ d.safe, f.d ≠ ⟨#[]⟩) : DAt W' v d := by
  obtain ⟨sa, sc, oa, oc, h1, h2, h3, h4, h5⟩ := hd
  refine ⟨sa, sc, oa, oc, h1, ?_, ?_, h4, h5⟩
  · rcases h2 with h2 | ⟨b, o, e1, e2, e3⟩
    · exact .inl h2
    refine .inr ⟨b, o, e1, by rw [ho.size]; exact e2, ?_⟩
    by_cases hb : b = g
    rotate_left
    · exact e3.same (ho.block b hb)
    subst hb
    have hl2 : (fileE.flat d.safe).length = d.safe.length * 2 := fileE.flat_length d.safe
    have hS : (heldE.flat S).length = S.length * 10 := heldE.flat_length S
    have hcn : ∀ i, (hi : i < d.safe.length) → (heldE.flat S ++ rest)[o + i * 2]? = some (.string d.safe[i].n) ∧ (heldE.flat S ++ rest)[o + i * 2 + 1]? = some (.string d.safe[i].d) := fun i hi => by
      have h6 : Rg.At W b (o + i * 2) [.string d.safe[i].n, .string d.safe[i].d] := e3.elem hi
      have a := h6 0 _ rfl
      have c := h6 1 _ rfl
      rw [h.cell] at a c
      exact ⟨a, c⟩
    have key : o + d.safe.length * 2 ≤ S.length * 10 := by
      rcases Nat.lt_or_ge (S.length * 10) (o + d.safe.length * 2) with hc | hc
      rotate_left
      · exact hc
      exfalso
      obtain ⟨f0, hf0, hf1⟩ := hex
      have hm : 0 < d.safe.length := List.length_pos_of_mem hf0
      obtain ⟨a1, a2⟩ := hcn (d.safe.length - 1) (by omega)
      rcases Nat.lt_or_ge (o + (d.safe.length - 1) * 2) (S.length * 10) with hq | hq
      rotate_left
      · rw [List.getElem?_append_right (by omega)] at a1
        exact hne _ (List.getElem_mem _) (hz _ (List.mem_of_getElem? a1) _ rfl)
      · have hN : o + (d.safe.length - 1) * 2 + 1 = S.length * 10 := by omega
        have hlast : d.safe[d.safe.length - 1].d = ⟨#[]⟩ := by
          rw [List.getElem?_append_right (by omega)] at a2
          exact hz _ (List.mem_of_getElem? a2) _ rfl
        rcases Nat.eq_or_lt_of_le hm with hone | htwo
        · obtain ⟨i, hi, e⟩ := List.mem_iff_getElem.1 hf0
          have : i = d.safe.length - 1 := by omega
          subst this
          exact hf1 (by rw [← e]; exact hlast)
        · obtain ⟨_, c2⟩ := hcn (d.safe.length - 2) (by omega)
          have hlt : S.length - 1 < S.length := by omega
          have := heldE.flat_get (l := S) (i := S.length - 1) (t := 8) hlt (by decide) rest
          rw [show (S.length - 1) * heldE.m + 8 = o + (d.safe.length - 2) * 2 + 1 by show (S.length - 1) * 10 + 8 = _; omega, c2] at this
          have h7 : (heldE.enc S[S.length - 1])[8]? = some (.int .i64 S[S.length - 1].j.z) := rfl
          rw [h7] at this
          cases this
    intro t u ht
    have htl : t < d.safe.length * 2 := by
      rw [← hl2]
      rcases Nat.lt_or_ge t (fileE.flat d.safe).length with c | c
      · exact c
      · rw [List.getElem?_eq_none c] at ht; cases ht
    have hu := e3 t u ht
    rw [h.cell, List.getElem?_append_left (by omega)] at hu
    rw [h'.cell, heldE.flat_append, List.append_assoc, List.getElem?_append_left (by omega)]
    exact hu
  · rcases h3 with h3 | ⟨b, o, e1, e2, e3⟩
    · exact .inl h3
    · refine .inr ⟨b, o, e1, by rw [ho.size]; exact e2, ?_⟩
      rw [h0]
      exact Rg.At.nil
/-- append of one job, out of block ad -/
theorem HZ.append {base : Nat} {W : World} {A : Option Addr} {cap : Nat} {S : List Spl.Hd} (h : HZ base W A cap S) (x : Spl.Hd) (ad : Nat) (hx : Rg.At W ad 0 (heldE.enc x)) (hB : base ≤ W.heap.size) (hS : S.length ≤ 1000000) :
    ∃ W' A' cap', (Builtin.append_ #[49, 49] 49 #[.slice A S.length cap, .slice (some ⟨ad, 0, none⟩) 1 1]).run Tryz.prog W = .ok (.slice A' (S.length + 1) cap') W' ∧ HZ base W' A' cap' (S ++ [x]) ∧ Below base W W' ∧
      (∀ k, k < W.heap.size → A ≠ some ⟨k, 0, none⟩ → W'.heap[k]? = W.heap[k]?) ∧
      ∀ (v : Value) (d : Dsk.Dk), DAt W v d → d.ops = [] → (∀ f ∈ d.safe, f.n ≠ ⟨#[]⟩) → (∃ f ∈ d.safe, f.d ≠ ⟨#[]⟩) → DAt W' v d := by
  obtain ⟨i0, hi, hz0, hz1, hz2⟩ := infoHeld'
  have hzc : (Value.agg zeroH).cells = zeroH := rfl
  have hnl : (heldE.enc x).length = 1 * i0.size := by rw [hz1]; rfl
  have hgw : ∀ o : Obj, Below W.heap.size W (W.drew.alloc o) := fun o => Below.drew ((Below.refl _ _)) |>.alloc (Nat.le_refl _) o
  rcases h with ⟨rfl, rfl, rfl⟩ | ⟨g, rest, rfl, h, hz⟩
  · have hr := run_append_nil (P := Tryz.prog) W 49 49 42 i0 _ Tryz.underlying49 hi hz0 ⟨ad, 0, none⟩ 1 1 (heldE.enc x) hnl hx.add (by decide) (by decide) (by rw [hz2]; decide)
    have hn1 := own_new (base := base) (n := grownCap W 1 0 42) (W := W) [x] hB (grownCap_ge W 1 0 _) (grownCap_le_maxLen W 1 0 _ (by decide))
    rw [heldE.flat_one] at hn1
    exact ⟨_, _, _, hr, .inr ⟨_, _, rfl, hn1, zeros_bare _⟩, (hgw _).mono hB, fun k hk _ => (hgw _).block k hk, fun v d hd _ _ _ => hd.below (hgw _)⟩
  · by_cases hr : S.length + 1 ≤ cap
    · have hf := h.fit
      have hfit : S.length * i0.size + (heldE.enc x).length ≤ (heldE.flat S ++ rest).toArray.size := by
        rw [hz1, List.size_toArray]
        refine Nat.le_trans ?_ hf
        show S.length * 10 + 10 ≤ cap * 10
        omega
      have hrun := run_append_room (P := Tryz.prog) W 49 49 42 i0 Tryz.underlying49 hi g S.length cap _ h.blk ⟨ad, 0, none⟩ 1 1 (heldE.enc x) hnl hx.add (heldE.one x) hr hfit
      have e : ((heldE.flat S ++ rest).toArray.toList.take (S.length * i0.size) ++ heldE.enc x ++ (heldE.flat S ++ rest).toArray.toList.drop (S.length * i0.size + (heldE.enc x).length)) = heldE.flat (S ++ [x]) ++ rest.drop 10 := by
        rw [hz1, heldE.hm, show S.length * 10 = (heldE.flat S).length from (heldE.flat_length S).symm, heldE.flat_append, heldE.flat_one]
        show (heldE.flat S ++ rest).take _ ++ _ ++ (heldE.flat S ++ rest).drop _ = _
        rw [List.take_left, ← List.drop_drop, List.drop_left]
        rfl
      rw [e] at hrun
      have hno : heldE.Own base (W.setRow g (heldE.flat (S ++ [x]) ++ rest.drop 10).toArray) g cap (S ++ [x]) (rest.drop 10) := by
        refine ⟨setRow_heap W g _ _ _ _ h.blk, h.new, by simpa using hr, h.max, ?_⟩
        have h2 : cap * 10 ≤ (heldE.flat S ++ rest).length := h.fit
        have h3 : (heldE.flat S).length = S.length * 10 := heldE.flat_length S
        have h4 : (heldE.flat (S ++ [x])).length = (S.length + 1) * 10 := by rw [heldE.flat_length, List.length_append]; rfl
        rw [List.length_append, h3] at h2
        rw [List.length_append, h4, List.length_drop]
        show cap * 10 ≤ _
        omega
      have hol := Rg.Only.setRow W g (heldE.flat (S ++ [x]) ++ rest.drop 10).toArray
      refine ⟨_, _, _, hrun, .inr ⟨g, _, rfl, hno, fun u hu => hz u (List.mem_of_mem_drop hu)⟩, hol.bel h.new, fun k _ hk => hol.block k (fun c => hk (by rw [c])), fun v d hd h0 hne hex => inplace h hz hno hol hd h0 hne hex⟩
    · have hmax := h.max
      have hrun := run_append_grow (P := Tryz.prog) W 49 49 42 i0 _ Tryz.underlying49 hi hz0 ⟨g, 0, none⟩ S.length cap (heldE.flat S) (by rw [hz1]; exact heldE.flat_length S) h.row.add ⟨ad, 0, none⟩ 1 1 (heldE.enc x) hnl hx.add (by omega) (by omega) (growslice_fits (by omega) (by rw [hz2]; omega))
      have hle := h.le
      have hn1 := own_new (base := base) (n := grownCap W (S.length + 1) cap 42) (W := W) (S ++ [x]) hB (by rw [List.length_append]; exact grownCap_ge W (S.length + 1) cap _) (grownCap_le_maxLen W (S.length + 1) cap _ (by unfold maxLen; omega))
      rw [heldE.flat_append, heldE.flat_one, List.length_append, show (heldE.flat S ++ heldE.enc x).toArray = (heldE.flat S).toArray ++ (heldE.enc x).toArray by simp] at hn1
      exact ⟨_, _, _, hrun, .inr ⟨_, _, rfl, hn1, zeros_bare _⟩, (hgw _).mono hB, fun k hk _ => (hgw _).block k hk, fun v d hd _ _ _ => hd.below (hgw _)⟩
/-- a block without texts is stored into: a disk's rows are elsewhere -/
theorem DAt.onlyBare {W W' : World} {v : Value} {d : Dsk.Dk} {R : Nat} {C : List Value} {ty : TypeId} (h : DAt W v d) (k : Rg.Bk R C ty W) (hC : Bare C) (hne : ∀ f ∈ d.safe, f.n ≠ ⟨#[]⟩) (hop : ∀ o ∈ d.ops, o.n ≠ ⟨#[]⟩) (ho : Rg.Only R W W') : DAt W' v d := by
  obtain ⟨sa, sc, oa, oc, h1, h2, h3, h4, h5⟩ := h
  refine ⟨sa, sc, oa, oc, h1, ?_, ?_, h4, h5⟩
  · rcases h2 with h2 | ⟨b, o, e1, e2, e3⟩
    · exact .inl h2
    refine .inr ⟨b, o, e1, by rw [ho.size]; exact e2, ?_⟩
    by_cases hb : b = R
    · subst hb
      generalize d.safe = l at *
      cases l with
      | nil => exact Rg.At.nil
      | cons x l =>
        have := e3 0 (.string x.n) rfl
        rw [k.cell] at this
        exact absurd (hC _ (List.mem_of_getElem? this) _ rfl) (hne x (List.mem_cons_self ..))
    · exact e3.same (ho.block b hb)
  · rcases h3 with h3 | ⟨b, o, e1, e2, e3⟩
    · exact .inl h3
    refine .inr ⟨b, o, e1, by rw [ho.size]; exact e2, ?_⟩
    by_cases hb : b = R
    · subst hb
      generalize d.ops = l at *
      cases l with
      | nil => exact Rg.At.nil
      | cons x l =>
        have := e3 1 (.string x.n) rfl
        rw [k.cell] at this
        exact absurd (hC _ (List.mem_of_getElem? this) _ rfl) (hop x (List.mem_cons_self ..))
    · exact e3.same (ho.block b hb)
end Go.Proofs.YtmilfamjkiemaaaGreatDoor

namespace Go.Proofs.YtmilfamjkiemaaaGreatDoor
namespace Spl
open Dsk

/-- an operation with short names -/
def Sh (o : Dop) : Prop := o.n.size ≤ 30 ∧ o.t.size ≤ 30
theorem after_sh {l : List Fl} {o : Dop} (h : ∀ x ∈ l, x.n.size ≤ 30) (ho : Sh o) : ∀ x ∈ after l o, x.n.size ≤ 30 := by
  have hp : ∀ {m : List Fl} {f : Fl}, (∀ x ∈ m, x.n.size ≤ 30) → f.n.size ≤ 30 → ∀ x ∈ put m f, x.n.size ≤ 30 := fun h hf x hx => by
    rcases put_mem hx with e | e
    · rw [e]; exact hf
    · exact h x e
  have hc : ∀ {m : List Fl} {n : ByteArray}, (∀ x ∈ m, x.n.size ≤ 30) → ∀ x ∈ cut m n, x.n.size ≤ 30 := fun h x hx => h x (cut_mem hx)
  unfold after
  split
  · exact hp h ho.1
  · split
    · exact hp h ho.1
    · split
      · split
        · exact h
        · split
          · exact h
          · exact hp (hc h) ho.2
      · split
        · exact hc h
        · exact h
theorem behind_sh : ∀ {l : List Fl} (ops : List Dop), (∀ x ∈ l, x.n.size ≤ 30) → (∀ o ∈ ops, Sh o) → ∀ x ∈ behind l ops, x.n.size ≤ 30
  | _, [], h, _ => h
  | l, o :: ops, h, ho => behind_sh (l := after l o) ops (after_sh h (ho o (List.mem_cons_self ..))) (fun x hx => ho x (List.mem_cons_of_mem _ hx))
structure NS (d : Dk) : Prop where
  safe : ∀ f ∈ d.safe, f.n.size ≤ 30
  ops : ∀ o ∈ d.ops, Sh o
theorem NS.files {d : Dk} (h : NS d) : ∀ f ∈ files d, f.n.size ≤ 30 := by
  unfold Dsk.files
  split
  · intro f hf; cases hf
  · exact behind_sh _ h.safe h.ops
theorem fn_sh (k : Int) (s : ByteArray) (g n : Int) : (fn k s g n).size ≤ 30 := by
  by_cases v : Nam.fk k = true ∧ Nam.system s.data.toList = true ∧ Nam.may g n = true
  · have := fn_isName v.1 v.2.1 v.2.2
    unfold isName at this
    simp only [Bool.and_eq_true, decide_eq_true_eq] at this
    exact this.2.2
  · rw [fn_bad v]; exact Nat.zero_le _
theorem NS.down {d : Dk} {l : List Dop} {q : Dk × Int} (h : NS d) (hl : ∀ o ∈ l, Sh o) (hq : Down d l q) : NS q.1 := by
  obtain ⟨_, i, _, rfl⟩ := hq
  refine ⟨h.safe, fun o ho => ?_⟩
  rcases List.mem_append.1 ho with c | c
  · exact h.ops o c
  · exact hl o (List.mem_of_mem_take c)
theorem NS.safed {d : Dk} {l : List Dop} {q : Dk × Int} (h : NS d) (hl : ∀ o ∈ l, Sh o) (hq : Safe d l q) : NS q.1 := by
  obtain ⟨f, _, _, _, rfl⟩ := hq
  refine ⟨behind_sh _ h.safe (fun o ho => ?_), fun o ho => by cases ho⟩
  rcases List.mem_append.1 ho with c | c
  · exact h.ops o c
  · exact hl o c
theorem sh_opsQ (s : ByteArray) (j : Job.Jb) (t x : ByteArray) : ∀ o ∈ opsQ s j t x, Sh o := by
  intro o ho
  unfold opsQ at ho
  simp only [List.mem_cons, List.mem_append] at ho
  rcases ho with rfl | ho | rfl | ho
  · exact ⟨show numF.size ≤ 30 by decide, Nat.zero_le _⟩
  · split at ho
    · cases ho
    · rw [List.mem_singleton] at ho; subst ho; exact ⟨fn_sh _ _ _ _, Nat.zero_le _⟩
  · exact ⟨fn_sh _ _ _ _, Nat.zero_le _⟩
  · cases ho
theorem sh_opsL {d : Dk} {s : ByteArray} {g n : Int} {o : Dop} (ho : o = rm (fn 67 s g n) ∨ o = mv (fn 67 s g n) (fn 69 s g n)) : ∀ u ∈ opsL d s g n o, Sh u := by
  intro u hu
  unfold opsL at hu
  rcases List.mem_cons.1 hu with rfl | hu
  · rcases ho with rfl | rfl
    · exact ⟨fn_sh _ _ _ _, Nat.zero_le _⟩
    · exact ⟨fn_sh _ _ _ _, fn_sh _ _ _ _⟩
  · split at hu
    · rw [List.mem_singleton] at hu; subst hu; exact ⟨fn_sh _ _ _ _, Nat.zero_le _⟩
    · cases hu

/-- a spool's disk -/
structure Fit (m : Nat) (d : Dk) : Prop where
  sm : Small m d
  ns : NS d
theorem Fit.mono {m m' : Nat} {d : Dk} (h : Fit m d) (hm : m ≤ m') : Fit m' d := ⟨h.sm.mono hm, h.ns⟩
theorem Fit.new (n : Int) : Fit 0 (Dsk.new n) := ⟨Small.new n, (fun f hf => by cases hf), (fun o ho => by cases ho)⟩
theorem Fit.arm {m : Nat} {d : Dk} (h : Fit m d) (n : Int) (hn : n ≤ 9223372036854775807) : Fit m (Dsk.arm d n) := ⟨h.sm.arm n hn, h.ns.safe, h.ns.ops⟩
theorem Fit.crash {m : Nat} {d : Dk} (h : Fit m d) (n : Int) : Fit m (Dsk.start (Dsk.crash d n)) := ⟨h.sm.crash n, behind_sh _ h.ns.safe (fun o ho => h.ns.ops o (List.mem_of_mem_take ho)), (fun o ho => by cases ho)⟩
theorem Fit.queue {m : Nat} {d : Dk} {s : ByteArray} {j : Job.Jb} {x : ByteArray} (h : Fit m d) (hm : m ≤ 1000000) : Fit (m + 6300) (Spl.queue d s j x).1 := by
  refine ⟨h.sm.queue hm, ?_⟩
  rcases queue_cases d s j x h.sm.ok.fuse h.sm.ok.fuse' with ⟨e, _, q⟩ | ⟨_, r, hr, q⟩ | ⟨_, r, hr, q⟩
  · rw [q]; exact h.ns
  · rw [q]; exact h.ns.down (sh_opsQ _ _ _ _) hr
  · rw [q]; exact h.ns.safed (sh_opsQ _ _ _ _) hr
theorem Fit.left {m : Nat} {d : Dk} {s : ByteArray} {g n : Int} {o : Dop} {r : Dk × Int} (h : Fit m d) (hm : m ≤ 1000000) (ho : o = rm (fn 67 s g n) ∨ o = mv (fn 67 s g n) (fn 69 s g n)) (hr : Left d s g n o r) : Fit (m + 6300) r.1 := by
  refine ⟨h.sm.left hm ho hr, ?_⟩
  rcases hr with ⟨e, _, _, q⟩ | ⟨_, q | q⟩
  · rw [q]; exact h.ns
  · exact h.ns.down (sh_opsL ho) q
  · exact h.ns.safed (sh_opsL ho) q
theorem Fit.done {m : Nat} {d : Dk} (h : Fit m d) (hm : m ≤ 1000000) (s : ByteArray) (g n : Int) : Fit (m + 6300) (Spl.done d s g n).1 :=
  h.left hm (.inl rfl) (done_cases d s g n h.sm.cl h.sm.ok.fuse h.sm.ok.fuse')
theorem Fit.fail {m : Nat} {d : Dk} (h : Fit m d) (hm : m ≤ 1000000) (s : ByteArray) (g n : Int) : Fit (m + 6300) (Spl.fail d s g n).1 :=
  h.left hm (.inr rfl) (fail_cases d s g n h.sm.cl h.sm.ok.fuse h.sm.ok.fuse')
theorem used_mem : ∀ {l : List Fl} {f : Fl}, f ∈ l → f.d.size + 16 ≤ used l
  | a :: l, f, h => by
    rcases List.mem_cons.1 h with rfl | h
    · simp only [used]; omega
    · have := used_mem h; simp only [used]; omega
theorem Fit.used {m : Nat} {d : Dk} (h : Fit m d) : used (files d) ≤ m := by
  have h1 := h.sm.wt
  unfold Dsk.Wt at h1
  unfold Dsk.files
  split
  · exact Nat.zero_le _
  · have := used_behind d.safe d.ops; omega
/-- calls of one file leave a disk that may be -/
theorem write_ok {d : Dk} (h : Dsk.Ok d) (n x : ByteArray) (hw : Dsk.Wt d + x.size + 16 ≤ 10000000000) : Dsk.Ok (write d n x).1 ∧ Dsk.Wt (write d n x).1 ≤ Dsk.Wt d + x.size + 16 :=
  play_ok h ⟨1, n, ⟨#[]⟩, x, 0⟩ hw (by show (0 : Int) ≤ _; omega)
theorem remove_ok {d : Dk} (h : Dsk.Ok d) (n : ByteArray) (hw : Dsk.Wt d + 16 ≤ 10000000000) : Dsk.Ok (remove d n).1 :=
  (play_ok h ⟨4, n, ⟨#[]⟩, ⟨#[]⟩, 0⟩ (by show Dsk.Wt d + 0 + 16 ≤ _; omega) (by show (0 : Int) ≤ _; omega)).1
theorem rename_ok {d : Dk} (h : Dsk.Ok d) (n t : ByteArray) (hw : Dsk.Wt d + 16 ≤ 10000000000) : Dsk.Ok (rename d n t).1 :=
  (play_ok h ⟨3, n, t, ⟨#[]⟩, 0⟩ (by show Dsk.Wt d + 0 + 16 ≤ _; omega) (by show (0 : Int) ≤ _; omega)).1
end Spl
end Go.Proofs.YtmilfamjkiemaaaGreatDoor

namespace Go.Proofs.YtmilfamjkiemaaaGreatDoor
namespace Spl
open Dsk

theorem said_file {l : List Fl} {n : ByteArray} (h : (said l n).2 = 0) : ∃ f ∈ l, f.d ≠ ⟨#[]⟩ := by
  by_cases hx : rd l n = ⟨#[]⟩
  · unfold said at h
    rw [hx] at h
    exact absurd h (by decide +kernel)
  · unfold rd at hx
    cases e : get l n with
    | none => rw [e] at hx; exact absurd rfl hx
    | some x =>
      rw [e] at hx
      obtain ⟨hp, _, hq⟩ := get_some_iff.1 e
      exact ⟨_, List.getElem_mem hp, by rw [hq]; exact hx⟩
theorem held_file {l : List Fl} {k : Int} {s : ByteArray} {g n : Int} {h : Hd} (e : held l k s g n = some h) : ∃ f ∈ l, f.d ≠ ⟨#[]⟩ := by
  unfold held at e
  split at e
  · next q => exact said_file q.1
  · cases e
/-- jobs were queued, one behind the other, and nothing else -/
structure FullI (m : Nat) (d : Dk) (ws : List Hd) : Prop where
  fit : Fit m d
  calm : Calm d ws
  sz : ∀ h ∈ ws, h.s.size ≤ maxLen
  gr : ∀ h ∈ ws, h.j.g ≠ 0
  nc : ∀ s g n, next d.safe ≤ n → get d.safe (fn 67 s g n) = none
theorem FullI.new (n : Int) : FullI 0 (Dsk.new n) [] := ⟨Fit.new n, Calm.new n, (fun h c => by cases c), (fun h c => by cases c), (fun _ _ _ _ => rfl)⟩
theorem FullI.file {m : Nat} {d : Dk} {ws : List Hd} {a : Hd} (h : FullI m d (ws ++ [a])) : ∃ f ∈ d.safe, f.d ≠ ⟨#[]⟩ :=
  held_file ((h.calm.que.wait a).1 (by simp))
theorem FullI.nc_queue {m : Nat} {d : Dk} {ws : List Hd} (h : FullI m d ws) (s : ByteArray) (j : Job.Jb) (x : ByteArray) (d' : Dk) (h1 : Spl.queue d s j x = (d', ((numbered d j x).g, (numbered d j x).n), 0)) (hM : May d s (numbered d j x) x) :
    ∀ s g n, next d'.safe ≤ n → get d'.safe (fn 67 s g n) = none := by
  rcases queue_cases d s j x (by rw [h.calm.fuse]; omega) (by rw [h.calm.fuse]; omega) with ⟨e, he, q⟩ | ⟨_, r, hr, q⟩ | ⟨_, r, hr, q⟩
  · rw [h1] at q; injection q with _ q; injection q with _ q; exact absurd q.symm he
  · have := hr.fuse; rw [h.calm.fuse] at this; omega
  · obtain ⟨f, _, _, _, rfl⟩ := hr
    rw [h1] at q
    injection q with q1 _
    have hs : d'.safe = behind d.safe (opsQ s (numbered d j x) (ba (Job.txt (numbered d j x))) x) := by rw [q1, h.calm.ops, List.nil_append]
    have hmay := (Job.chk_ok.1 hM.chk).1
    have hnx : (numbered d j x).n = next d.safe := by show next (Dsk.files d) = _; rw [h.calm.files]
    have hq := h.calm.que.queue hM.sys hM.chk (x := x) rfl hM.fet hnx
    have hlt := hq.num ⟨s, numbered d j x, x⟩ (by simp)
    rw [← hs] at hlt
    intro s' g n hn
    have hlt' : (numbered d j x).n < n := by
      have : (numbered d j x).n < next d'.safe := hlt
      omega
    rw [hs, other_opsQ h.calm.que.srt _ _ hM.sys hmay (.inl (fun c => by have := c.2.2; omega))]
    exact h.nc s' g n (by omega)
theorem FullI.queue {m : Nat} {d : Dk} {ws : List Hd} (h : FullI m d ws) (hm : m ≤ 1000000) (s : ByteArray) (j : Job.Jb) (x : ByteArray) (hs : s.size ≤ maxLen) :
    ((Spl.queue d s j x).2.2 ≠ 0 ∧ FullI (m + 6300) (Spl.queue d s j x).1 ws) ∨
    ((Spl.queue d s j x).2.2 = 0 ∧ FullI (m + 6300) (Spl.queue d s j x).1 (ws ++ [⟨s, ⟨(Spl.queue d s j x).2.1.1, (Spl.queue d s j x).2.1.2, j.k, j.u, j.f, j.t, j.c, (x.size : Int)⟩, x⟩])) := by
  have hf : Fit (m + 6300) (Spl.queue d s j x).1 := h.fit.queue hm
  rcases h.calm.queue s j x with ⟨h1, h2⟩ | ⟨d', h1, h2, h3, _⟩
  · refine .inl ⟨h1, hf, ?_, h.sz, h.gr, ?_⟩
    · rw [h2]; exact h.calm
    · rw [h2]; exact h.nc
  · have hnc := h.nc_queue s j x d' h1 h3
    rw [h1] at hf ⊢
    have hg : j.g ≠ 0 := by
      have : Nam.may j.g (numbered d j x).n = true := (Job.chk_ok.1 h3.chk).1
      intro c
      rw [c] at this
      have h0 : Nam.grade 0 = false := by decide
      unfold Nam.may at this
      simp [h0] at this
    refine .inr ⟨rfl, hf, h2, fun a ha => ?_, fun a ha => ?_, hnc⟩
    · rcases List.mem_append.1 ha with c | c
      · exact h.sz a c
      · rw [List.mem_singleton] at c; subst c; exact hs
    · rcases List.mem_append.1 ha with c | c
      · exact h.gr a c
      · rw [List.mem_singleton] at c; subst c; exact hg
end Spl
end Go.Proofs.YtmilfamjkiemaaaGreatDoor
