/-
  Walk of layer 4's statement PathNever.
-/
import Derived.Test.YtkbemfhdamdglaaDoorLawP3
namespace Go.Proofs.YtkbemfhdamdglaaDoor
open Go.RowKit

namespace Pth
/-- what PathNever asks of a root -/
def holds (r q : Bs) : Bool := r == [47] || q == r || (decide (r.length < q.length) && decide (1 < r.length) && (q.take r.length == r) && (q[r.length]? == some 47))
theorem permit_holds {l : List Bs} {q : Bs} (h : permit l q = true) : ∃ r ∈ l, holds r q = true := by
  obtain ⟨r, hr, h⟩ := permit_says h
  refine ⟨r, hr, ?_⟩
  unfold holds
  rcases h with h | h | ⟨h1, h2, h3, h4⟩
  · rw [h]; rfl
  · rw [h]; simp
  · rw [decide_eq_true h1, decide_eq_true h2, h3, h4]; simp
end Pth

set_option maxHeartbeats 2000000 in
theorem never_walk (a : Option Addr) (c : Nat) (l : List ByteArray) (hl : ∀ s ∈ l, s.size ≤ maxLen) (hn : l.length ≤ maxLen) (ha : a = none → c = 0) (p : ByteArray) (hp : p.size ≤ maxLen) (w : World) (hrow : Row w a l) (hm : MaxIn w) :
    Calls Tryd.prog 7 #[.slice a l.length c, .string p] w fun e w' => e = .returned (.bool true) ∧ Below w.heap.size w w' := by
  have HA : Hid (∀ W, Below w.heap.size w W → Calls Tryd.prog 10 #[] W fun e w' => e = .returned (.bool true) ∧ Below w.heap.size w w') := fun W hW => awake_b w W hm hW
  have HL := fun W L hL hW => long_b [p] w W L (by simp) hL hW
  unfold maxLen at hn
  cases hb : ([p].any fun s => decide (3000 < s.size))
  case true =>
    have HL1 : Hid (∀ W, Below w.heap.size w W → Calls Tryd.prog 9 #[.slice (some ⟨W.heap.size, 0, none⟩) 1 1] (W.alloc (.cells #[.string p] 9)) fun e w' => e = .returned (.bool true) ∧ Below w.heap.size w w') := fun W hW => HL W true hb hW
    clear HL hb hm hp hl hrow
    go_enter Tryd.func7, Tryd.ntmps7
    go_wp2_with (first | (go_at_call 9; refine (HL1.out _ (Below.refl _ _)).mono ?_; rintro e w1 ⟨rfl, b1⟩) | (go_at_call 10; refine (HA.out _ b1).mono ?_; rintro e w2 ⟨rfl, b2⟩))
    go_ret
    exact ⟨rfl, b2⟩
  have HL1 : Hid (∀ W, Below w.heap.size w W → Calls Tryd.prog 9 #[.slice (some ⟨W.heap.size, 0, none⟩) 1 1] (W.alloc (.cells #[.string p] 9)) fun e w' => e = .returned (.bool false) ∧ Below w.heap.size w w') := fun W hW => HL W false hb hW
  clear HL hb
  by_cases h50 : 50 < l.length
  case pos =>
    clear hm hp hl hrow
    have hd : decide ((50 : Int) < (l.length : Int)) = true := decide_eq_true (by omega)
    go_enter Tryd.func7, Tryd.ntmps7
    go_wp2_with (first | (go_at_call 9; refine (HL1.out _ (Below.refl _ _)).mono ?_; rintro e w1 ⟨rfl, b1⟩) | (go_at_call 10; refine (HA.out _ b1).mono ?_; rintro e w2 ⟨rfl, b2⟩))
    go_ret
    exact ⟨rfl, b2⟩
  have hd : decide ((50 : Int) < (l.length : Int)) = false := decide_eq_false (by omega)
  have HR := fun W L hL hW => longr_b a c l w W L hrow (by omega) hL hW
  cases hb : (l.any fun s => decide (3000 < s.size))
  case true =>
    have HR1 : Hid (∀ W, Below w.heap.size w W → Calls Tryd.prog 9 #[.slice a l.length c] W fun e w' => e = .returned (.bool true) ∧ Below w.heap.size w w') := fun W hW => HR W true hb hW
    clear HR hb hm hp hl hrow
    go_enter Tryd.func7, Tryd.ntmps7
    go_wp2_with (first | (go_at_call 9; (first | with_reducible refine (HL1.out _ (by first | exact Below.refl _ _ | assumption)).mono ?_ | with_reducible refine (HR1.out _ (by first | exact Below.refl _ _ | assumption)).mono ?_); rintro e w1 ⟨rfl, b1⟩) | (go_at_call 10; refine (HA.out _ b1).mono ?_; rintro e w2 ⟨rfl, b2⟩))
    go_ret
    exact ⟨rfl, b2⟩
  have HR1 : Hid (∀ W, Below w.heap.size w W → Calls Tryd.prog 9 #[.slice a l.length c] W fun e w' => e = .returned (.bool false) ∧ Below w.heap.size w w') := fun W hW => HR W false hb hW
  clear HR hb
  have H2 := fun W hW => clean_b p w W hm hp hW
  obtain ⟨x, n, hx⟩ : ∃ x n, Pth.clean p.data.toList = (x, n) := ⟨_, _, rfl⟩
  have hsz := fun h : n = 0 => clean_size (h ▸ hx : _ = (x, 0))
  rw [hx] at H2
  have hxl : Hid ((⟨x.toArray⟩ : ByteArray).data.toList = x) := by show _ = _; simp
  generalize (⟨x.toArray⟩ : ByteArray) = q at *
  clear hx
  by_cases hn0 : n = 0
  case neg =>
    obtain ⟨g1, g2, g3, g4⟩ := ne_facts hn0
    have H2 : Hid (∀ W, Below w.heap.size w W → Calls Tryd.prog 15 #[.string p] W fun e w' => e = .returned (.tuple #[.string q, .int .i64 (n : Nat)]) ∧ Below w.heap.size w w') := H2
    clear hn0 hm hp hl hrow hsz
    go_enter Tryd.func7, Tryd.ntmps7
    go_wp2_with (first
      | (go_at_call 9; (first | with_reducible refine (HL1.out _ (by first | exact Below.refl _ _ | assumption)).mono ?_ | with_reducible refine (HR1.out _ (by first | exact Below.refl _ _ | assumption)).mono ?_); rintro e w1 ⟨rfl, b1⟩)
      | (go_at_call 15; refine (H2.out _ (by assumption)).mono ?_; rintro e w1 ⟨rfl, b1⟩)
      | (go_at_call 10; refine (HA.out _ (by assumption)).mono ?_; rintro e w2 ⟨rfl, b2⟩))
    go_ret
    exact ⟨rfl, by assumption⟩
  subst hn0
  have hqs := hsz rfl
  clear hsz
  have H2 : Hid (∀ W, Below w.heap.size w W → Calls Tryd.prog 15 #[.string p] W fun e w' => e = .returned (.tuple #[.string q, .int .i64 0]) ∧ Below w.heap.size w w') := H2
  have HAP : Hid (∀ W, Below w.heap.size w W → ∃ (a' : Option Addr) (c' : Nat) (w4 : World), (Builtin.append_ #[30, 30] 30 #[.slice (some ⟨W.heap.size, 0, none⟩) 0 0, .slice a l.length c]).run Tryd.prog (W.alloc (.cells #[] 9)) = .ok (.slice a' l.length c') w4 ∧ Row w4 a' l ∧ Below w.heap.size w w4) := fun W hW => app_roots a c l w W ha hrow (by omega) hW
  have H3 := fun a c W hW hr => permit_b a c l q w W hm hr hl hqs (by omega) hW
  have hPm : Hid (Pth.permit (l.map fun s : ByteArray => s.data.toList) q.data.toList = true → ∃ r ∈ l, Pth.holds r.data.toList q.data.toList = true) := fun h => by
    obtain ⟨r, hr, h⟩ := Pth.permit_holds h
    obtain ⟨s, hs, rfl⟩ := List.mem_map.1 hr
    exact ⟨s, hs, h⟩
  generalize hu : Pth.permit (l.map fun s : ByteArray => s.data.toList) q.data.toList = u at *
  clear hu hm hp ha hxl
  cases u
  case false =>
    have H3 : Hid (∀ a c W, Below w.heap.size w W → Row W a l → Calls Tryd.prog 17 #[.slice a l.length c, .string q] W fun e w' => e = .returned (.bool false) ∧ Below w.heap.size w w') := H3
    clear hPm hl hrow
    go_enter Tryd.func7, Tryd.ntmps7
    go_wp2_with (go_at_call 9; (first | with_reducible refine (HL1.out _ (by first | exact Below.refl _ _ | assumption)).mono ?_ | with_reducible refine (HR1.out _ (by first | exact Below.refl _ _ | assumption)).mono ?_); rintro e w1 ⟨rfl, b1⟩)
    go_wp2_with (first
      | (go_at_call 15; refine (H2.out _ (by assumption)).mono ?_; rintro e w3 ⟨rfl, b3⟩; obtain ⟨a', c', w5, hap, hrow5, b5⟩ := HAP.out _ b3; have Hrow5 : Hid (Row w5 a' l) := hrow5; clear hrow5)
      | (at_builtin; refine wpList_append_run rfl (.tmp 30) (.tmp 31) 30 rfl _ _ rfl rfl _ _ hap ?_)
      | (go_at_call 17; refine (H3.out _ _ _ b5 Hrow5.out).mono ?_; rintro e w6 ⟨rfl, b6⟩)
      | (go_at_call 10; refine (HA.out _ (by assumption)).mono ?_; rintro e w2 ⟨rfl, b2⟩))
    go_ret
    exact ⟨rfl, by assumption⟩
  case true =>
    have H3 : Hid (∀ a c W, Below w.heap.size w W → Row W a l → Calls Tryd.prog 17 #[.slice a l.length c, .string q] W fun e w' => e = .returned (.bool true) ∧ Below w.heap.size w w') := H3
    obtain ⟨r0, hr0, hh0⟩ := hPm.out rfl
    have hne : Hid (∃ r ∈ l, Pth.holds r.data.toList q.data.toList = true) := ⟨r0, hr0, hh0⟩
    rcases hrow with rfl | ⟨b, o, rfl, hbk, hc⟩
    · cases hr0
    have hc' : Hid (∀ (i : Nat) (h : i < l.length), w.cell? ⟨b, o + i, none⟩ = some (.string l[i])) := hc
    have hl' : Hid (∀ s ∈ l, s.size ≤ maxLen) := hl
    clear hPm hl hc hr0 hh0
    unfold maxLen at hqs
    go_enter Tryd.func7, Tryd.ntmps7
    go_wp2_with (go_at_call 9; (first | with_reducible refine (HL1.out _ (by first | exact Below.refl _ _ | assumption)).mono ?_ | with_reducible refine (HR1.out _ (by first | exact Below.refl _ _ | assumption)).mono ?_); rintro e w1 ⟨rfl, b1⟩)
    go_wp2_with (first
      | (go_at_call 15; refine (H2.out _ (by assumption)).mono ?_; rintro e w3 ⟨rfl, b3⟩; obtain ⟨a', c', w5, hap, hrow5, b5⟩ := HAP.out _ b3; have Hrow5 : Hid (Row w5 a' l) := hrow5; clear hrow5)
      | (at_builtin; refine wpList_append_run rfl (.tmp 30) (.tmp 31) 30 rfl _ _ rfl rfl _ _ hap ?_)
      | (go_at_call 17; refine (H3.out _ _ _ b5 Hrow5.out).mono ?_; rintro e w6 ⟨rfl, b6⟩))
    clear hap Hrow5 HAP H2 H3 HL1 HR1
    go_loopw [40] (fun i wr => ∃ k : Nat, k ≤ l.length ∧ i = .int .i64 k ∧ Hid (∀ (j : Nat) (h : j < l.length), j < k → Pth.holds l[j].data.toList q.data.toList = false) ∧ wr = w6) (fun i _ => l.length - (intOf i).toNat)
    case atStart => exact ⟨0, Nat.zero_le _, rfl, (fun j _ h => absurd h (Nat.not_lt_zero _)), rfl⟩
    case round =>
      obtain ⟨k, hk, rfl, hno, rfl⟩ := hrel
      by_cases hlt : k < l.length
      · have hcell : wr.cell? ⟨b, o + k, none⟩ = some (.string l[k]) := by rw [b6.cell (p := ⟨b, o + k, none⟩) hbk]; exact hc'.out k hlt
        have hrs : l[k].size ≤ maxLen := hl'.out _ (List.getElem_mem hlt)
        unfold maxLen at hrs
        have hnx : Hid (Pth.holds l[k].data.toList q.data.toList = false → ∀ (j : Nat) (h : j < l.length), j < k + 1 → Pth.holds l[j].data.toList q.data.toList = false) := fun hh j h hj => by
          by_cases e : j = k
          · subst e; exact hh
          · exact hno.out j h (by omega)
        have hv : Hid (Pth.holds l[k].data.toList q.data.toList = (l[k].toList == [47] || q.toList == l[k].toList || (decide (l[k].size < q.size) && decide (1 < l[k].size) && ((q.extract 0 l[k].size).toList == l[k].toList) && (q.data.toList[l[k].size]? == some 47)))) := by
          show _ = _
          rw [Pth.holds, tl_eq, tl_eq, tl_eq, cut_data, List.drop_zero, Nat.sub_zero, Oct.len_eq, Oct.len_eq]
        clear hno
        generalize Pth.holds l[k].data.toList q.data.toList = U at hv hnx
        generalize l[k] = r at *
        cases g1 : (r.toList == [47])
        case true =>
          clear hv hnx
          go_wp2_with (go_at_call 10; refine (HA.out _ b6).mono ?_; rintro e w7 ⟨rfl, b7⟩)
          go_ret
          exact ⟨rfl, b7⟩
        cases g2 : (q.toList == r.toList)
        case true =>
          clear hv hnx
          go_wp2_with (go_at_call 10; refine (HA.out _ b6).mono ?_; rintro e w7 ⟨rfl, b7⟩)
          go_ret
          exact ⟨rfl, b7⟩
        by_cases g3 : r.size < q.size
        case neg =>
          have hn2 := hnx.out (by rw [hv.out, g1, g2, decide_eq_false g3]; rfl)
          have gd : decide ((r.size : Int) < (q.size : Int)) = false := decide_eq_false (by omega)
          have Hn : Hid (∀ (j : Nat) (h : j < l.length), j < k + 1 → Pth.holds l[j].data.toList q.data.toList = false) := hn2
          clear hv hnx hn2
          go_wp2
          go_roundw
          case rel => exact ⟨k + 1, by omega, by go_num, Hn, trivial⟩
          case measure => simp [intOf]; omega
        have gd : decide ((r.size : Int) < (q.size : Int)) = true := decide_eq_true (by omega)
        by_cases g4 : 1 < r.size
        case neg =>
          have hn2 := hnx.out (by rw [hv.out, g1, g2, decide_eq_true g3, decide_eq_false g4]; rfl)
          have gd2 : decide ((1 : Int) < (r.size : Int)) = false := decide_eq_false (by omega)
          have Hn : Hid (∀ (j : Nat) (h : j < l.length), j < k + 1 → Pth.holds l[j].data.toList q.data.toList = false) := hn2
          clear hv hnx hn2
          go_wp2
          go_roundw
          case rel => exact ⟨k + 1, by omega, by go_num, Hn, trivial⟩
          case measure => simp [intOf]; omega
        have gd2 : decide ((1 : Int) < (r.size : Int)) = true := decide_eq_true (by omega)
        have gi : (r.size : Int) ≤ (q.size : Int) := by omega
        cases g5 : ((q.extract 0 r.size).toList == r.toList)
        case false =>
          have hn2 := hnx.out (by rw [hv.out, g1, g2, decide_eq_true g3, decide_eq_true g4, g5]; rfl)
          have Hn : Hid (∀ (j : Nat) (h : j < l.length), j < k + 1 → Pth.holds l[j].data.toList q.data.toList = false) := hn2
          clear hv hnx hn2
          go_wp2
          go_roundw
          case rel => exact ⟨k + 1, by omega, by go_num, Hn, trivial⟩
          case measure => simp [intOf]; omega
        by_cases g6 : q[r.size] = 47
        · have gb : ((q[r.size].toNat : Int) == 47) = true := by rw [g6]; rfl
          clear hv hnx g6
          go_wp2_with (go_at_call 10; refine (HA.out _ b6).mono ?_; rintro e w7 ⟨rfl, b7⟩)
          go_ret
          exact ⟨rfl, b7⟩
        · have hn2 := hnx.out (by rw [hv.out, g1, g2, decide_eq_true g3, decide_eq_true g4, g5, at_byte g3, beq_eq_false_iff_ne.2 (fun h => g6 (Option.some.inj h))]; rfl)
          have gb : ((q[r.size].toNat : Int) == 47) = false := by
            rw [beq_eq_false_iff_ne]; intro h; exact g6 (UInt8.toNat_inj.1 (by show q[r.size].toNat = 47; omega))
          have Hn : Hid (∀ (j : Nat) (h : j < l.length), j < k + 1 → Pth.holds l[j].data.toList q.data.toList = false) := hn2
          clear hv hnx hn2 g6
          go_wp2
          go_roundw
          case rel => exact ⟨k + 1, by omega, by go_num, Hn, trivial⟩
          case measure => simp [intOf]; omega
      · exfalso
        obtain ⟨r, hr, hh⟩ := hne.out
        obtain ⟨j, hj, rfl⟩ := List.getElem_of_mem hr
        rw [hno.out j hj (by omega)] at hh
        cases hh
end Go.Proofs.YtkbemfhdamdglaaDoor
