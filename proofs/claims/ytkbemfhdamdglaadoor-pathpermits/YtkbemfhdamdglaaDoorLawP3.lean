/-
  Walks of layer 4's statements PathPermits and PathNever.
-/
import Derived.Test.YtkbemfhdamdglaaDoorLawP2
import Derived.Laws.AppendOwnNone
import Derived.Laws.OwnMore
namespace Go.Proofs.YtkbemfhdamdglaaDoor
open Go.RowKit

theorem permit_b (a : Option Addr) (c : Nat) (l : List ByteArray) (p : ByteArray) (w W : World) (hm : MaxIn w) (hrow : Row W a l) (hl : ∀ s ∈ l, s.size ≤ maxLen) (hp : p.size ≤ maxLen) (hn : l.length ≤ 1000000) (hb : Below w.heap.size w W) :
    Calls Tryd.prog 17 #[.slice a l.length c, .string p] W fun e w' => e = .returned (.bool (Pth.permit (l.map fun s : ByteArray => s.data.toList) p.data.toList)) ∧ Below w.heap.size w w' :=
  (permit_any a c l p W (hm.below hb (Nat.le_refl _)) hrow hl hp hn).mono fun _ _ ⟨he, h2⟩ => ⟨he, hb.trans (h2.mono hb.size)⟩
theorem rpermit_b (a : Option Addr) (c : Nat) (l : List ByteArray) (p : ByteArray) (w W : World) (hrow : Row w a l) (hl : ∀ s ∈ l, s.size ≤ maxLen) (hp : p.size ≤ maxLen) (hn : l.length ≤ 1000000) (hb : Below w.heap.size w W) :
    Calls Tryd.prog 18 #[.slice a l.length c, .string p] W fun e w' => e = .returned (.bool (Pth.permit (l.map fun s : ByteArray => s.data.toList) p.data.toList)) ∧ Below w.heap.size w w' :=
  (rpermit_any a c l p W (hrow.below hb (Nat.le_refl _)) hl hp hn).mono fun _ _ ⟨he, h2⟩ => ⟨he, hb.trans (h2.mono hb.size)⟩
theorem longr_b (a : Option Addr) (c : Nat) (l : List ByteArray) (w W : World) (L : Bool) (hrow : Row w a l) (hn : l.length ≤ 1000000) (hL : (l.any fun s => decide (3000 < s.size)) = L) (hb : Below w.heap.size w W) :
    Calls Tryd.prog 9 #[.slice a l.length c] W fun e w' => e = .returned (.bool L) ∧ Below w.heap.size w w' :=
  (long_any a c l W hn (hrow.below hb (Nat.le_refl _))).mono fun _ _ ⟨he, h2⟩ => ⟨by rw [he, hL], h2 ▸ hb⟩

/-- append behind a guard that holds, where its run is known -/
theorem wpList_append_run {P : Program} {w : World} {ops : Array Oper} {rest : List Oper} {o : Oper} {a : Act} {Q : Exit → Act → World → Prop} (hw : Region.wanted o (yielded ops a.tmps) = true) (s x : Operand) (t : TypeId)
    (ho : o.op = .call { callee := .builtin .append, args := #[s, x], argTypes := #[t, t] }) (v u : Value) (hs : a.eval s = v) (hx : a.eval x = u) (v' : Value) (w' : World)
    (hrun : (Builtin.append_ #[t, t] o.type #[v, u]).run P w = .ok v' w') (h : wpList P ops Q rest (a.put o.dst v') w') : wpList P ops Q (o :: rest) a w := by
  refine wpList_step fun K hK => ?_
  rw [if_pos hw]
  unfold Oper.wp
  simp [execOp, ho, resolve, invoke, builtin, hs, hx, hrun, Result.andThen]
  exact hK _ _ h

/-- 'append([]string{}, roots...)' -/
theorem app_roots (a : Option Addr) (c : Nat) (l : List ByteArray) (w W : World) (ha : a = none → c = 0) (hrow : Row w a l) (hn : l.length ≤ 1000) (hb : Below w.heap.size w W) :
    ∃ (a' : Option Addr) (c' : Nat) (w4 : World), (Builtin.append_ #[30, 30] 30 #[.slice (some ⟨W.heap.size, 0, none⟩) 0 0, .slice a l.length c]).run Tryd.prog (W.alloc (.cells #[] 9)) = .ok (.slice a' l.length c') w4 ∧ Row w4 a' l ∧ Below w.heap.size w w4 := by
  obtain ⟨i0, hi, hz0, hz1, hz2⟩ := info_parts infoStr
  have hown : (W.alloc (.cells #[] 9)).ownsRow W.heap.size 9 1 (.slice (some ⟨W.heap.size, 0, none⟩) 0 0) 0 [] := World.ownsRow_lit W #[] 0 (Nat.le_refl _) (by decide) rfl
  have hbW : Below w.heap.size w (W.alloc (.cells #[] 9)) := hb.alloc hb.size _
  have done : ∀ (ad : Addr) (news : List Value), news = l.map Value.string → (∀ (j : Nat) u, news[j]? = some u → (W.alloc (.cells #[] 9)).cell? (ad.add j) = some u) → ∃ (a' : Option Addr) (c' : Nat) (w4 : World), (Builtin.append_ #[30, 30] 30 #[.slice (some ⟨W.heap.size, 0, none⟩) 0 0, .slice (some ad) l.length c]).run Tryd.prog (W.alloc (.cells #[] 9)) = .ok (.slice a' l.length c') w4 ∧ Row w4 a' l ∧ Below w.heap.size w w4 := by
    intro ad news hnl hnews
    obtain ⟨v', w4, hrun, hown', hgrow, _⟩ := run_append_own (P := Tryd.prog) (w := W.alloc (.cells #[] 9)) W.heap.size 30 30 9 i0 (.string ByteArray.empty) 1 16 Tryd.underlying30 hi hz0 hz1 hz2 rfl (by decide) _ 0 [] hown ad l.length c news (by rw [hnl]; simp) hnews (by rw [hnl]; intro u hu; obtain ⟨s, _, rfl⟩ := List.mem_map.1 hu; rfl) (by unfold maxLen; omega) (by omega) (by simp)
    rw [Nat.zero_add, List.nil_append, hnl] at hown'
    have hbl : Below w.heap.size w w4 := hbW.grown hgrow (by simp; have := hb.size; omega) (fun k hk => by simp [Value.ownBlock] at hk; have := hb.size; omega)
    by_cases h0 : l = []
    · subst h0
      obtain ⟨a', c', rfl, _, _⟩ := owned_form hown'
      exact ⟨a', c', w4, hrun, .inl rfl, hbl⟩
    · obtain ⟨g, cap, rfl, _, hg, _, _, ht⟩ := owned_texts hown' h0
      exact ⟨_, cap, w4, hrun, .inr ⟨g, 0, rfl, hg, fun i hi => by rw [Nat.zero_add]; exact ht i hi⟩, hbl⟩
  rcases hrow with rfl | ⟨b, o, rfl, hbk, hc⟩
  · cases a with
    | none =>
      obtain rfl := ha rfl
      exact ⟨_, 0, _, run_append_owned_none (P := Tryd.prog) (w := W.alloc (.cells #[] 9)) W.heap.size 30 30 9 i0 1 Tryd.underlying30 hi _ 0 [] hown, .inl rfl, hbW⟩
    | some ad => exact done ad [] rfl (fun j u h => by simp at h)
  · refine done ⟨b, o, none⟩ (l.map Value.string) rfl (fun j u h => ?_)
    have hj : j < l.length := by
      rcases Nat.lt_or_ge j l.length with h' | h'
      · exact h'
      · rw [List.getElem?_eq_none (by simpa using h')] at h; cases h
    rw [List.getElem?_eq_getElem (by simpa using hj)] at h
    injection h with h
    rw [Go.WideShapes.add_plain, hbW.cell (p := ⟨b, o + j, none⟩) hbk, hc j hj, ← h]
    simp

set_option maxHeartbeats 1000000 in
theorem permits_walk (a : Option Addr) (c : Nat) (l : List ByteArray) (hl : ∀ s ∈ l, s.size ≤ maxLen) (hn : l.length ≤ maxLen) (ha : a = none → c = 0) (p : ByteArray) (hp : p.size ≤ maxLen) (w : World) (hrow : Row w a l) (hm : MaxIn w) :
    Calls Tryd.prog 5 #[.slice a l.length c, .string p] w fun e w' => e = .returned (.bool true) ∧ Below w.heap.size w w' := by
  have HA : Hid (∀ W, Below w.heap.size w W → Calls Tryd.prog 10 #[] W fun e w' => e = .returned (.bool true) ∧ Below w.heap.size w w') := fun W hW => awake_b w W hm hW
  have HL := fun W L hL hW => long_b [p] w W L (by simp) hL hW
  unfold maxLen at hn
  cases hb : ([p].any fun s => decide (3000 < s.size))
  case true =>
    have HL1 : Hid (∀ W, Below w.heap.size w W → Calls Tryd.prog 9 #[.slice (some ⟨W.heap.size, 0, none⟩) 1 1] (W.alloc (.cells #[.string p] 9)) fun e w' => e = .returned (.bool true) ∧ Below w.heap.size w w') := fun W hW => HL W true hb hW
    clear HL hb hm hp hl hrow
    go_enter Tryd.func5, Tryd.ntmps5
    go_wp2_with (first | (go_at_call 9; refine (HL1.out _ (Below.refl _ _)).mono ?_; rintro e w1 ⟨rfl, b1⟩) | (go_at_call 10; refine (HA.out _ b1).mono ?_; rintro e w2 ⟨rfl, b2⟩))
    go_ret
    exact ⟨rfl, b2⟩
  have HL1 : Hid (∀ W, Below w.heap.size w W → Calls Tryd.prog 9 #[.slice (some ⟨W.heap.size, 0, none⟩) 1 1] (W.alloc (.cells #[.string p] 9)) fun e w' => e = .returned (.bool false) ∧ Below w.heap.size w w') := fun W hW => HL W false hb hW
  clear HL hb
  by_cases h50 : 50 < l.length
  case pos =>
    clear hm hp hl hrow
    have hd : decide ((50 : Int) < (l.length : Int)) = true := decide_eq_true (by omega)
    go_enter Tryd.func5, Tryd.ntmps5
    go_wp2_with (first | (go_at_call 9; refine (HL1.out _ (Below.refl _ _)).mono ?_; rintro e w1 ⟨rfl, b1⟩) | (go_at_call 10; refine (HA.out _ b1).mono ?_; rintro e w2 ⟨rfl, b2⟩))
    go_ret
    exact ⟨rfl, b2⟩
  have hd : decide ((50 : Int) < (l.length : Int)) = false := decide_eq_false (by omega)
  have hd2 : decide ((l.length : Int) ≤ 50) = true := decide_eq_true (by omega)
  have HR := fun W L hL hW => longr_b a c l w W L hrow (by omega) hL hW
  cases hb : (l.any fun s => decide (3000 < s.size))
  case true =>
    have HR1 : Hid (∀ W, Below w.heap.size w W → Calls Tryd.prog 9 #[.slice a l.length c] W fun e w' => e = .returned (.bool true) ∧ Below w.heap.size w w') := fun W hW => HR W true hb hW
    clear HR hb hm hp hl hrow
    go_enter Tryd.func5, Tryd.ntmps5
    go_wp2_with (first | (go_at_call 9; (first | with_reducible refine (HL1.out _ (by first | exact Below.refl _ _ | assumption)).mono ?_ | with_reducible refine (HR1.out _ (by first | exact Below.refl _ _ | assumption)).mono ?_); rintro e w1 ⟨rfl, b1⟩) | (go_at_call 10; refine (HA.out _ b1).mono ?_; rintro e w2 ⟨rfl, b2⟩))
    go_ret
    exact ⟨rfl, b2⟩
  have HR1 : Hid (∀ W, Below w.heap.size w W → Calls Tryd.prog 9 #[.slice a l.length c] W fun e w' => e = .returned (.bool false) ∧ Below w.heap.size w w') := fun W hW => HR W false hb hW
  clear HR hb
  have H1 : Hid (∀ a c W, Below w.heap.size w W → Row W a l → Calls Tryd.prog 17 #[.slice a l.length c, .string p] W fun e w' => e = .returned (.bool (Pth.permit (l.map fun s : ByteArray => s.data.toList) p.data.toList)) ∧ Below w.heap.size w w') := fun a c W hW hr => permit_b a c l p w W hm hr hl hp (by omega) hW
  have H2 : Hid (∀ W, Below w.heap.size w W → Calls Tryd.prog 18 #[.slice a l.length c, .string p] W fun e w' => e = .returned (.bool (Pth.permit (l.map fun s : ByteArray => s.data.toList) p.data.toList)) ∧ Below w.heap.size w w') := fun W hW => rpermit_b a c l p w W hrow hl hp (by omega) hW
  generalize Pth.permit (l.map fun s : ByteArray => s.data.toList) p.data.toList = u at *
  have HAP : Hid (∀ W, Below w.heap.size w W → ∃ (a' : Option Addr) (c' : Nat) (w4 : World), (Builtin.append_ #[30, 30] 30 #[.slice (some ⟨W.heap.size, 0, none⟩) 0 0, .slice a l.length c]).run Tryd.prog (W.alloc (.cells #[] 9)) = .ok (.slice a' l.length c') w4 ∧ Row w4 a' l ∧ Below w.heap.size w w4) := fun W hW => app_roots a c l w W ha hrow (by omega) hW
  clear hm hp hl ha hrow
  go_enter Tryd.func5, Tryd.ntmps5
  go_wp2_with (go_at_call 9; refine (HL1.out _ (Below.refl _ _)).mono ?_)
  rintro e w1 ⟨rfl, b1⟩
  go_wp2_with (go_at_call 9; refine (HR1.out _ b1).mono ?_)
  rintro e w2 ⟨rfl, b2⟩
  go_wp2_with (go_at_call 9; refine (HL1.out _ b2).mono ?_)
  rintro e w3 ⟨rfl, b3⟩
  go_wp2_with (go_at_call 9; refine (HR1.out _ b3).mono ?_)
  rintro e w4 ⟨rfl, b4⟩
  obtain ⟨a', c', w5, hap, hrow5, b5⟩ := HAP.out w4 b4
  have Hrow5 : Hid (Row w5 a' l) := hrow5
  clear hrow5
  go_wp2_with (at_builtin; refine wpList_append_run rfl (.tmp 36) (.tmp 37) 30 rfl _ _ rfl rfl _ _ hap ?_)
  go_wp2_with (go_at_call 17; refine (H1.out _ _ _ b5 Hrow5.out).mono ?_)
  rintro e w6 ⟨rfl, b6⟩
  go_wp2_with (go_at_call 18; refine (H2.out _ b6).mono ?_)
  rintro e w7 ⟨rfl, b7⟩
  go_wp2_with (go_at_call 10; refine (HA.out _ b7).mono ?_)
  rintro e w8 ⟨rfl, b8⟩
  go_wp2
  go_ret
  exact ⟨rfl, b8⟩
end Go.Proofs.YtkbemfhdamdglaaDoor
