/-
  A region that draws its order, where the last store may overwrite what was loaded: S is asked behind the operations that are not late; whatever is late waits for each load. No program in it.
-/
import Derived.Test.YtmilfamjkiemaaaGreatDoorSzAS
import Derived.Deep.RegionHeld3
namespace Go.Proofs.YtmilfamjkiemaaaGreatDoor
namespace Rg
open Go.RowKit
section
variable {P : Program} {ops : Array Oper} {Q : Exit → Act → World → Prop} {md : Region.Mode} {S : World → Prop} {lt : List Nat}
/-- whatever order is drawn; S holds behind what is not late -/
def AnyL (P : Program) (md : Region.Mode) (ops : Array Oper) (Q : Exit → Act → World → Prop) (S : World → Prop) (lt : List Nat) : Nat → Array Bool → Act → World → Prop
  | 0, L, b, u => Region.ready md ops L = [] ∧ Q .normal b u
  | k + 1, L, b, u => (Region.ready md ops L = [] → Q .normal b u) ∧ ∀ j ∈ Region.ready md ops L, wpOp P ops Q j (fun c x => (j ∉ lt → S x) ∧ AnyL P md ops Q S lt k (L.setIfInBounds j true) c x) b u
theorem AnyL.any {k : Nat} {L : Array Bool} {b : Act} {u : World} (h : AnyL P md ops Q S lt k L b u) : wpAny P md ops Q k L b u := by
  induction k generalizing L b u with
  | zero => exact h
  | succ k ih => exact ⟨h.1, fun j hj => wpOp_mono (fun _ _ q => ih q.2) (h.2 j hj)⟩
/-- what waits for i, by steps -/
def deps (md : Region.Mode) (ops : Array Oper) (i : Nat) : List Nat := (List.range ops.size).foldl (fun acc j => match ops[j]? with | some o => if o.after.any (fun e => Region.binds md e && (e.on == i || acc.contains e.on)) then j :: acc else acc | none => acc) []
/-- each of them waits for i or for another one, and has not come up -/
def waits (md : Region.Mode) (ops : Array Oper) (L : Array Bool) (i : Nat) (ch : List Nat) : Bool :=
  ch.all fun j => (L.getD j true == false) && (match ops[j]? with | some o => o.after.any (fun e => Region.binds md e && (e.on == i || ch.contains e.on)) | none => false)
def depOk (md : Region.Mode) (ops : Array Oper) (L : Array Bool) (i : Nat) (lt : List Nat) : Bool := waits md ops L i (deps md ops i) && lt.all (fun j => L.getD j true || (deps md ops i).contains j)
theorem waits_edge {L : Array Bool} {i : Nat} {ch : List Nat} (h : waits md ops L i ch = true) {j : Nat} (hj : j ∈ ch) : L.getD j true = false ∧ ∃ o, ops[j]? = some o ∧ ∃ e ∈ o.after, Region.binds md e = true ∧ (e.on = i ∨ e.on ∈ ch) := by
  have := List.all_eq_true.1 h j hj
  rw [Bool.and_eq_true] at this
  obtain ⟨h1, h2⟩ := this
  refine ⟨by simpa using h1, ?_⟩
  cases e : ops[j]? with
  | none => rw [e] at h2; cases h2
  | some o =>
    rw [e] at h2
    obtain ⟨x, hx, q⟩ := Array.any_eq_true'.1 h2
    simp only [Bool.and_eq_true, Bool.or_eq_true, beq_iff_eq, List.contains_iff_mem] at q
    exact ⟨o, rfl, x, hx, q⟩
theorem AnyL.take0 {i : Nat} {oi : Oper} {v : Value} (hi : ops[i]? = some oi) (hsel : ∀ (j : Nat) (o : Oper) cs b, ops[j]? = some o → o.op ≠ .select cs b) (hQ : ∀ c a w, Q (.panic c) (a.put oi.dst v) w → Q (.panic c) a w)
    {ch : List Nat} : ∀ (k : Nat) (L : Array Bool) (b : Act) (u : World), (∀ j ∈ lt, L.getD j true = false → j ∈ ch) → waits md ops L i ch = true →
      (∀ j oj, ops[j]? = some oj → j ≠ i → L.getD j true = false → (∀ e ∈ oj.after, Region.binds md e = true → e.on ≠ i) → oi.apart ops oj = true) →
      i ∈ Region.ready md ops L → YieldsIf P ops S oi v b → S u → AnyL P md ops Q S lt k (L.setIfInBounds i true) (b.put oi.dst v) u → AnyL P md ops Q S lt (k + 1) L b u := by
  intro k
  induction k with
  | zero =>
    intro L b u _ _ _ hr hy hS H
    refine ⟨fun c => by (rw [c] at hr; cases hr), fun j hj => ?_⟩
    rcases Nat.decEq j i with hji | hji
    · exact absurd (ready_mono hj hji) (by rw [H.1]; simp)
    · subst hji; exact hy.wpOp hi hS ⟨fun _ => hS, H⟩
  | succ k ih =>
    intro L b u hlt hw hf hr hy hS H
    refine ⟨fun c => by (rw [c] at hr; cases hr), fun j hj => ?_⟩
    rcases Nat.decEq j i with hji | hji
    rotate_left
    · subst hji; exact hy.wpOp hi hS ⟨fun _ => hS, H⟩
    obtain ⟨hju, oj, hoj, hall⟩ := mem_ready.1 hj
    have hiu : L.getD i true = false := (mem_ready.1 hr).1
    have off : ∀ m, L.getD m true = false → L.getD m false = true → False := fun m q1 q2 => by
      rcases Nat.lt_or_ge m L.size with c | c
      · simp [c] at q1 q2; rw [q1] at q2; cases q2
      · simp [Array.getElem?_eq_none c] at q2
    have hno : ∀ e ∈ oj.after, Region.binds md e = true → e.on ≠ i := fun e he hb c => off i hiu (by rw [← c]; exact hall e he hb)
    have hjc : j ∉ ch := fun c => by
      obtain ⟨_, o, ho, e, he, hb, q⟩ := waits_edge hw c
      obtain rfl : o = oj := Option.some.inj (ho.symm.trans hoj)
      rcases q with q | q
      · exact hno e he hb q
      · exact off _ (waits_edge hw q).1 (hall e he hb)
    have hw' : waits md ops (L.setIfInBounds j true) i ch = true := by
      refine List.all_eq_true.2 fun m hm => ?_
      have := List.all_eq_true.1 hw m hm
      rw [getD_set_ne true (fun c => hjc (by rw [c]; exact hm))]
      exact this
    have hf' : ∀ m om, ops[m]? = some om → m ≠ i → (L.setIfInBounds j true).getD m true = false → (∀ e ∈ om.after, Region.binds md e = true → e.on ≠ i) → oi.apart ops om = true := fun m om hm hmi hun hno' => by
      refine hf m om hm hmi ?_ hno'
      by_cases c : j = m
      · rw [← c]; exact hju
      · rwa [getD_set_ne true c] at hun
    have h2 := wpOp_putIf hoj (hf j oj hoj hji hju hno) (fun cs c => hsel i oi cs c hi) (fun cs c => hsel j oj cs c hoj) hQ hy (H.2 j (ready_mono hj hji))
    refine wpOp_mono (fun c x q => ⟨q.2.1, ?_⟩) h2
    have hlt' : ∀ m ∈ lt, (L.setIfInBounds j true).getD m true = false → m ∈ ch := fun m hm hun => hlt m hm (by
      by_cases c : j = m
      · rw [← c]; exact hju
      · rwa [getD_set_ne true c] at hun)
    refine ih (L.setIfInBounds j true) c x hlt' hw' hf' (ready_mono hr (Ne.symm hji)) q.1 (q.2.1 fun m => hjc (hlt j m hju)) ?_
    rw [Array.setIfInBounds_comm _ _ hji]
    exact q.2.2
theorem AnyL.take {i : Nat} {oi : Oper} {v : Value} {k : Nat} {L : Array Bool} {b : Act} {u : World} (hi : ops[i]? = some oi) (hs : Region.noSelect ops = true) (hf : Region.free md ops L i = true) (hr : (Region.ready md ops L).contains i = true)
    (hdp : depOk md ops L i lt = true) (hQ : ∀ c a w, Q (.panic c) (a.put oi.dst v) w → Q (.panic c) a w) (hy : YieldsIf P ops S oi v b) (hS : S u)
    (h : AnyL P md ops Q S lt k (L.setIfInBounds i true) (b.put oi.dst v) u) : AnyL P md ops Q S lt (k + 1) L b u := by
  unfold depOk at hdp
  rw [Bool.and_eq_true] at hdp
  exact AnyL.take0 hi (Region.noSelect_spec hs) hQ k L b u (fun j hj hun => by
    have := List.all_eq_true.1 hdp.2 j hj
    rw [hun] at this; simpa using this) hdp.1 (Region.free_spec hi hf) (by simpa using hr) hy hS h
theorem AnyL.done {k : Nat} {L : Array Bool} {b : Act} {u : World} (h : Q .normal b u) (hr : Region.ready md ops L = [] := by kernel_rfl) : AnyL P md ops Q S lt k L b u := by
  cases k with
  | zero => exact ⟨hr, h⟩
  | succ k => exact ⟨fun _ => h, by rw [hr]; simp⟩
/-- one operation alone may come up -/
theorem AnyL.one {k : Nat} {L : Array Bool} {b : Act} {u : World} (i : Nat) {o : Oper} (hn : i ∉ lt)
    (h : ∀ K : Act → World → Prop, Shut (∀ c x, S x → (S x → AnyL P md ops Q S lt k (L.setIfInBounds i true) c x) → K c x) → if Region.wanted o (yielded ops b.tmps) = true then Oper.wp P o b u K Q else K (b.put o.dst undef) u)
    (ho : ops[i]? = some o := by rfl) (hr : Region.ready md ops L = [i] := by kernel_rfl) : AnyL P md ops Q S lt (k + 1) L b u := by
  refine ⟨fun c => by (rw [hr] at c; cases c), fun j hj => ?_⟩
  rw [hr, List.mem_singleton] at hj
  subst hj
  exact wpOp_step ho fun K hK => h K fun c x q1 q2 => hK c x ⟨fun _ => q1, q2 q1⟩
/-- a late one -/
theorem AnyL.last {k : Nat} {L : Array Bool} {b : Act} {u : World} (i : Nat) {o : Oper} (hn : i ∈ lt)
    (h : ∀ K : Act → World → Prop, Shut (∀ c x, AnyL P md ops Q S lt k (L.setIfInBounds i true) c x → K c x) → if Region.wanted o (yielded ops b.tmps) = true then Oper.wp P o b u K Q else K (b.put o.dst undef) u)
    (ho : ops[i]? = some o := by rfl) (hr : Region.ready md ops L = [i] := by kernel_rfl) : AnyL P md ops Q S lt (k + 1) L b u := by
  refine ⟨fun c => by (rw [hr] at c; cases c), fun j hj => ?_⟩
  rw [hr, List.mem_singleton] at hj
  subst hj
  exact wpOp_step ho fun K hK => h K fun c x q => hK c x ⟨fun m => absurd hn m, q⟩
/-- one of two may come up -/
theorem AnyL.two {k : Nat} {L : Array Bool} {b : Act} {u : World} (i j : Nat) {o p : Oper} (hi : i ∉ lt) (hj : j ∉ lt)
    (h : ∀ K : Act → World → Prop, Shut (∀ c x, S x → (S x → AnyL P md ops Q S lt k (L.setIfInBounds i true) c x) → K c x) → if Region.wanted o (yielded ops b.tmps) = true then Oper.wp P o b u K Q else K (b.put o.dst undef) u)
    (h2 : ∀ K : Act → World → Prop, Shut (∀ c x, S x → (S x → AnyL P md ops Q S lt k (L.setIfInBounds j true) c x) → K c x) → if Region.wanted p (yielded ops b.tmps) = true then Oper.wp P p b u K Q else K (b.put p.dst undef) u)
    (ho : ops[i]? = some o := by rfl) (hp : ops[j]? = some p := by rfl) (hr : Region.ready md ops L = [i, j] := by kernel_rfl) : AnyL P md ops Q S lt (k + 1) L b u := by
  refine ⟨fun c => by (rw [hr] at c; cases c), fun m hm => ?_⟩
  rw [hr] at hm
  rcases List.mem_cons.1 hm with rfl | hm
  · exact wpOp_step ho fun K hK => h K fun c x q1 q2 => hK c x ⟨fun _ => q1, q2 q1⟩
  · rw [List.mem_singleton] at hm
    subst hm
    exact wpOp_step hp fun K hK => h2 K fun c x q1 q2 => hK c x ⟨fun _ => q1, q2 q1⟩
theorem beginL (S : World → Prop) (lt : List Nat) {id : Nat} {a : Act} {w : World} (hm : P.follows .mixedOrders = true) (hS : S w.drew) (h : S w.drew → AnyL P .any ops Q S lt ops.size (Array.replicate ops.size false) a w.drew) : (Code.region id ops true).wp P Q a w :=
  wp_region_any hm (h hS).any
/-- a late one that yields its value in whatever world -/
theorem AnyL.takeT0 {i : Nat} {oi : Oper} {v : Value} (hi : ops[i]? = some oi) (hsel : ∀ (j : Nat) (o : Oper) cs b, ops[j]? = some o → o.op ≠ .select cs b) (hQ : ∀ c a w, Q (.panic c) (a.put oi.dst v) w → Q (.panic c) a w)
    (hit : i ∈ lt) : ∀ (k : Nat) (L : Array Bool) (b : Act) (u : World),
      (∀ j oj, ops[j]? = some oj → j ≠ i → L.getD j true = false → (∀ e ∈ oj.after, Region.binds md e = true → e.on ≠ i) → oi.apart ops oj = true) →
      i ∈ Region.ready md ops L → YieldsIf P ops (fun _ => True) oi v b → AnyL P md ops Q S lt k (L.setIfInBounds i true) (b.put oi.dst v) u → AnyL P md ops Q S lt (k + 1) L b u := by
  intro k
  induction k with
  | zero =>
    intro L b u _ hr hy H
    refine ⟨fun c => by (rw [c] at hr; cases hr), fun j hj => ?_⟩
    rcases Nat.decEq j i with hji | hji
    · exact absurd (ready_mono hj hji) (by rw [H.1]; simp)
    · subst hji; exact hy.wpOp hi trivial ⟨fun m => absurd hit m, H⟩
  | succ k ih =>
    intro L b u hf hr hy H
    refine ⟨fun c => by (rw [c] at hr; cases hr), fun j hj => ?_⟩
    rcases Nat.decEq j i with hji | hji
    rotate_left
    · subst hji; exact hy.wpOp hi trivial ⟨fun m => absurd hit m, H⟩
    obtain ⟨hju, oj, hoj, hall⟩ := mem_ready.1 hj
    have hiu : L.getD i true = false := (mem_ready.1 hr).1
    have hno : ∀ e ∈ oj.after, Region.binds md e = true → e.on ≠ i := fun e he hb c => by
      have q2 := hall e he hb
      rw [c] at q2
      rcases Nat.lt_or_ge i L.size with c | c
      · simp [c] at hiu q2; rw [hiu] at q2; cases q2
      · simp [Array.getElem?_eq_none c] at q2
    have hf' : ∀ m om, ops[m]? = some om → m ≠ i → (L.setIfInBounds j true).getD m true = false → (∀ e ∈ om.after, Region.binds md e = true → e.on ≠ i) → oi.apart ops om = true := fun m om hm hmi hun hno' => by
      refine hf m om hm hmi ?_ hno'
      by_cases c : j = m
      · rw [← c]; exact hju
      · rwa [getD_set_ne true c] at hun
    have h2 := wpOp_putIf hoj (hf j oj hoj hji hju hno) (fun cs c => hsel i oi cs c hi) (fun cs c => hsel j oj cs c hoj) hQ hy (H.2 j (ready_mono hj hji))
    refine wpOp_mono (fun c x q => ⟨q.2.1, ?_⟩) h2
    refine ih (L.setIfInBounds j true) c x hf' (ready_mono hr (Ne.symm hji)) q.1 ?_
    rw [Array.setIfInBounds_comm _ _ hji]
    exact q.2.2
/-- a plain late one -/
theorem tlp (i : Nat) (d : Option Tmp) {oi : Oper} {v : Value} {k : Nat} {L : Array Bool} {a a' : Act} {w : World}
    (h : AnyL P md ops Q S lt k (L.setIfInBounds i true) a' w)
    (hi : ops[i]? = some oi := by rfl) (hd : oi.dst = d := by rfl) (hs : Region.noSelect ops = true := by kernel_rfl) (hf : Region.free md ops L i = true := by kernel_rfl) (hr : (Region.ready md ops L).contains i = true := by kernel_rfl)
    (hit : i ∈ lt := by decide) (hw : Region.wanted oi (yielded ops a.tmps) = true := by rfl)
    (hy : ∀ w : World, True → (execOp a.eval oi).run P w = .ok (.value v) w := by intro w hSw; clear hSw; go_simp; try with_reducible rfl)
    (hQ : ∀ c a w, Q (.panic c) (a.put d v) w → Q (.panic c) a w := by exact fun _ _ _ h => h)
    (ha : a.put d v = a' := by simp only [Act.put, List.setIfInBounds_toArray, List.set_cons_zero, List.set_cons_succ]; try rfl) : AnyL P md ops Q S lt (k + 1) L a w := by
  subst hd ha
  exact AnyL.takeT0 hi (Region.noSelect_spec hs) hQ hit k L a w (Region.free_spec hi hf) (by simpa using hr) (Or.inl ⟨hw, hy⟩) h
/-- what a plain operation yields is reckoned -/
theorem tlq (i : Nat) (d : Option Tmp) {oi : Oper} {v : Value} {k : Nat} {L : Array Bool} {a a' : Act} {w : World}
    (h : AnyL P md ops Q S lt k (L.setIfInBounds i true) a' w)
    (hi : ops[i]? = some oi := by rfl) (hd : oi.dst = d := by rfl) (hs : Region.noSelect ops = true := by kernel_rfl) (hf : Region.free md ops L i = true := by kernel_rfl) (hr : (Region.ready md ops L).contains i = true := by kernel_rfl)
    (hdp : depOk md ops L i lt = true := by kernel_rfl) (hw : Region.wanted oi (yielded ops a.tmps) = true := by rfl) (hS : S w := by assumption)
    (hy : ∀ w, S w → (execOp a.eval oi).run P w = .ok (.value v) w := by intro w hSw; clear hSw; go_simp; try with_reducible rfl)
    (hQ : ∀ c a w, Q (.panic c) (a.put d v) w → Q (.panic c) a w := by exact fun _ _ _ h => h)
    (ha : a.put d v = a' := by simp only [Act.put, List.setIfInBounds_toArray, List.set_cons_zero, List.set_cons_succ]; try rfl) : AnyL P md ops Q S lt (k + 1) L a w := by
  subst hd ha
  exact AnyL.take hi hs hf hr hdp hQ (Or.inl ⟨hw, hy⟩) hS h
/-- what a load yields is told -/
theorem tlv (i : Nat) (d : Option Tmp) (v : Value) {oi : Oper} {k : Nat} {L : Array Bool} {a a' : Act} {w : World} (hy : ∀ w, S w → (execOp a.eval oi).run P w = .ok (.value v) w)
    (h : AnyL P md ops Q S lt k (L.setIfInBounds i true) a' w)
    (hi : ops[i]? = some oi := by rfl) (hd : oi.dst = d := by rfl) (hs : Region.noSelect ops = true := by kernel_rfl) (hf : Region.free md ops L i = true := by kernel_rfl) (hr : (Region.ready md ops L).contains i = true := by kernel_rfl)
    (hdp : depOk md ops L i lt = true := by kernel_rfl) (hw : Region.wanted oi (yielded ops a.tmps) = true := by rfl) (hS : S w := by assumption)
    (hQ : ∀ c a w, Q (.panic c) (a.put d v) w → Q (.panic c) a w := by exact fun _ _ _ h => h)
    (ha : a.put d v = a' := by simp only [Act.put, List.setIfInBounds_toArray, List.set_cons_zero, List.set_cons_succ]; try rfl) : AnyL P md ops Q S lt (k + 1) L a w := by
  subst hd ha
  exact AnyL.take hi hs hf hr hdp hQ (Or.inl ⟨hw, hy⟩) hS h
end
end Rg
end Go.Proofs.YtmilfamjkiemaaaGreatDoor
