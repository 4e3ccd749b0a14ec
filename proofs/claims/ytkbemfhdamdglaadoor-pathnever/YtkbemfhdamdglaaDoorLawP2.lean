/-
  Walks of layer 4's statements PathRests and PathBelow.
-/
import Derived.Test.YtkbemfhdamdglaaDoorLawP1
namespace Go.Proofs.YtkbemfhdamdglaaDoor
open Go.RowKit

theorem clean_size {p q : List UInt8} (h : Pth.clean p = (q, 0)) : (⟨q.toArray⟩ : ByteArray).size ≤ maxLen := by
  have h1 := (Pth.chk_ok.1 (Pth.clean_chk h)).1
  have e : (⟨q.toArray⟩ : ByteArray).size = q.length := by simp [ByteArray.size]
  rw [e]; unfold maxLen; omega

set_option maxHeartbeats 1000000 in
theorem rests_walk (p : ByteArray) (hp : p.size ≤ maxLen) (w : World) (hm : MaxIn w) :
    Calls Tryd.prog 6 #[.string p] w fun e w' => e = .returned (.bool true) ∧ Below w.heap.size w w' := by
  have HA : Hid (∀ W, Below w.heap.size w W → Calls Tryd.prog 10 #[] W fun e w' => e = .returned (.bool true) ∧ Below w.heap.size w w') := fun W hW => awake_b w W hm hW
  have HL := fun W L hL hW => long_b [p] w W L (by simp) hL hW
  cases hb : ([p].any fun s => decide (3000 < s.size))
  case true =>
    have HL1 : Hid (∀ W, Below w.heap.size w W → Calls Tryd.prog 9 #[.slice (some ⟨W.heap.size, 0, none⟩) 1 1] (W.alloc (.cells #[.string p] 9)) fun e w' => e = .returned (.bool true) ∧ Below w.heap.size w w') := fun W hW => HL W true hb hW
    clear HL hb hm hp
    go_enter Tryd.func6, Tryd.ntmps6
    go_wp2_with (first
      | (go_at_call 9; refine (HL1.out _ (by first | exact Below.refl _ _ | assumption)).mono ?_; rintro e w' ⟨rfl, b'⟩)
      | (go_at_call 10; refine (HA.out _ (by first | exact Below.refl _ _ | assumption)).mono ?_; rintro e w' ⟨rfl, b'⟩))
    go_ret
    exact ⟨rfl, by assumption⟩
  have HL1 : Hid (∀ W, Below w.heap.size w W → Calls Tryd.prog 9 #[.slice (some ⟨W.heap.size, 0, none⟩) 1 1] (W.alloc (.cells #[.string p] 9)) fun e w' => e = .returned (.bool false) ∧ Below w.heap.size w w') := fun W hW => HL W false hb hW
  clear HL hb
  have H1 := fun W hW => check_b p w W hm hp hW
  have H2 := fun W hW => clean_b p w W hm hp hW
  by_cases hc : Pth.chk p.data.toList = 0
  case pos =>
    rw [Pth.clean_path hc] at H2
    rw [hc] at H1
    have H1 : Hid (∀ W, Below w.heap.size w W → Calls Tryd.prog 11 #[.string p] W fun e w' => e = .returned (.int .i64 0) ∧ Below w.heap.size w w') := H1
    have H2 : Hid (∀ W, Below w.heap.size w W → Calls Tryd.prog 15 #[.string p] W fun e w' => e = .returned (.tuple #[.string p, .int .i64 0]) ∧ Below w.heap.size w w') := fun W hW => H2 W hW
    clear hc hm hp
    go_enter Tryd.func6, Tryd.ntmps6
    go_wp2_with (first
      | (go_at_call 9; refine (HL1.out _ (by first | exact Below.refl _ _ | assumption)).mono ?_; rintro e w' ⟨rfl, b'⟩)
      | (go_at_call 11; refine (H1.out _ (by first | exact Below.refl _ _ | assumption)).mono ?_; rintro e w' ⟨rfl, b'⟩)
      | (go_at_call 15; refine (H2.out _ (by first | exact Below.refl _ _ | assumption)).mono ?_; rintro e w' ⟨rfl, b'⟩)
      | (go_at_call 10; refine (HA.out _ (by first | exact Below.refl _ _ | assumption)).mono ?_; rintro e w' ⟨rfl, b'⟩))
    go_ret
    exact ⟨rfl, by assumption⟩
  obtain ⟨x, n, hx⟩ : ∃ x n, Pth.clean p.data.toList = (x, n) := ⟨_, _, rfl⟩
  have hbad := Pth.clean_bad hx
  have hsz := fun h : n = 0 => clean_size (h ▸ hx : Pth.clean p.data.toList = (x, 0))
  have hck := fun h : n = 0 => Pth.clean_chk (h ▸ hx : Pth.clean p.data.toList = (x, 0))
  rw [hx] at H2
  clear hx
  generalize Pth.chk p.data.toList = a at *
  obtain ⟨f1, f2, f3, f4⟩ := ne_facts hc
  have H1 : Hid (∀ W, Below w.heap.size w W → Calls Tryd.prog 11 #[.string p] W fun e w' => e = .returned (.int .i64 (a : Nat)) ∧ Below w.heap.size w w') := H1
  by_cases hn : n = 0
  · subst hn
    have hsz := hsz rfl
    have hck := hck rfl
    have H3 := fun W hW => check_b ⟨x.toArray⟩ w W hm hsz hW
    have H4 := fun W hW => clean_b ⟨x.toArray⟩ w W hm hsz hW
    rw [show (⟨x.toArray⟩ : ByteArray).data.toList = x by simp] at H3 H4
    rw [hck] at H3
    rw [Pth.clean_path hck] at H4
    generalize (⟨x.toArray⟩ : ByteArray) = q at *
    have H2 : Hid (∀ W, Below w.heap.size w W → Calls Tryd.prog 15 #[.string p] W fun e w' => e = .returned (.tuple #[.string q, .int .i64 0]) ∧ Below w.heap.size w w') := H2
    have H3 : Hid (∀ W, Below w.heap.size w W → Calls Tryd.prog 11 #[.string q] W fun e w' => e = .returned (.int .i64 0) ∧ Below w.heap.size w w') := H3
    have H4 : Hid (∀ W, Below w.heap.size w W → Calls Tryd.prog 15 #[.string q] W fun e w' => e = .returned (.tuple #[.string q, .int .i64 0]) ∧ Below w.heap.size w w') := H4
    clear hc hm hp hbad hsz hck
    go_enter Tryd.func6, Tryd.ntmps6
    go_wp2_with (first
      | (go_at_call 9; refine (HL1.out _ (by first | exact Below.refl _ _ | assumption)).mono ?_; rintro e w' ⟨rfl, b'⟩)
      | (go_at_call 11; (first | with_reducible refine (H1.out _ (by first | exact Below.refl _ _ | assumption)).mono ?_ | with_reducible refine (H3.out _ (by first | exact Below.refl _ _ | assumption)).mono ?_); rintro e w' ⟨rfl, b'⟩)
      | (go_at_call 15; (first | with_reducible refine (H2.out _ (by first | exact Below.refl _ _ | assumption)).mono ?_ | with_reducible refine (H4.out _ (by first | exact Below.refl _ _ | assumption)).mono ?_); rintro e w' ⟨rfl, b'⟩)
      | (go_at_call 10; refine (HA.out _ (by first | exact Below.refl _ _ | assumption)).mono ?_; rintro e w' ⟨rfl, b'⟩))
    go_ret
    exact ⟨rfl, by assumption⟩
  · obtain rfl := hbad hn
    obtain ⟨g1, g2, g3, g4⟩ := ne_facts hn
    have hem : ((⟨#[]⟩ : ByteArray).toList == []) = true := by rw [tl_eq]; rfl
    have H2 : Hid (∀ W, Below w.heap.size w W → Calls Tryd.prog 15 #[.string p] W fun e w' => e = .returned (.tuple #[.string ⟨#[]⟩, .int .i64 (n : Nat)]) ∧ Below w.heap.size w w') := H2
    clear hc hm hp hbad hsz hck hn
    go_enter Tryd.func6, Tryd.ntmps6
    go_wp2_with (first
      | (go_at_call 9; refine (HL1.out _ (by first | exact Below.refl _ _ | assumption)).mono ?_; rintro e w' ⟨rfl, b'⟩)
      | (go_at_call 11; refine (H1.out _ (by first | exact Below.refl _ _ | assumption)).mono ?_; rintro e w' ⟨rfl, b'⟩)
      | (go_at_call 15; refine (H2.out _ (by first | exact Below.refl _ _ | assumption)).mono ?_; rintro e w' ⟨rfl, b'⟩)
      | (go_at_call 10; refine (HA.out _ (by first | exact Below.refl _ _ | assumption)).mono ?_; rintro e w' ⟨rfl, b'⟩))
    go_ret
    exact ⟨rfl, by assumption⟩

namespace Pth
theorem two_no {l : Bs} (h : ∀ i, i + 1 < l.length → ¬ (l[i]? = some 46 ∧ l[i + 1]? = some 46)) : two l = false := by
  cases ht : two l with
  | false => rfl
  | true =>
    obtain ⟨i, h1, h2⟩ := (two_of l).1 ht
    have : i + 1 < l.length := by
      rcases Nat.lt_or_ge (i + 1) l.length with h' | h'
      · exact h'
      · rw [List.getElem?_eq_none h'] at h2; cases h2
    exact absurd ⟨h1, h2⟩ (h i this)
end Pth
theorem at_byte {s : ByteArray} {i : Nat} (h : i < s.size) : s.data.toList[i]? = some s[i] := by
  rw [List.getElem?_eq_getElem (by rw [Oct.len_eq]; exact h)]; rfl
theorem byte_is {c : UInt8} {n : Nat} (h : c.toNat = n) : ((c.toNat : Int) == (n : Int)) = true := by rw [h]; simp

set_option maxHeartbeats 2000000 in
theorem below_walk (root : ByteArray) (hr : root.size ≤ maxLen) (rest : ByteArray) (_ : rest.size ≤ maxLen) (more : ByteArray) (hmo : more.size ≤ maxLen) (w : World) (hm : MaxIn w) :
    Calls Tryd.prog 8 #[.string root, .string rest, .string more] w fun e w' => e = .returned (.bool true) ∧ Below w.heap.size w w' := by
  have HA : Hid (∀ W, Below w.heap.size w W → Calls Tryd.prog 10 #[] W fun e w' => e = .returned (.bool true) ∧ Below w.heap.size w w') := fun W hW => awake_b w W hm hW
  have HL := fun W L hL hW => long_b [root, rest, more] w W L (by simp) hL hW
  cases hb : ([root, rest, more].any fun s => decide (3000 < s.size))
  case true =>
    have HL1 : Hid (∀ W, Below w.heap.size w W → Calls Tryd.prog 9 #[.slice (some ⟨W.heap.size, 0, none⟩) 3 3] (W.alloc (.cells #[.string root, .string rest, .string more] 9)) fun e w' => e = .returned (.bool true) ∧ Below w.heap.size w w') := fun W hW => HL W true hb hW
    clear HL hb hm hr hmo
    go_enter Tryd.func8, Tryd.ntmps8
    go_wp2_with (go_at_call 9; refine (HL1.out _ (Below.refl _ _)).mono ?_)
    rintro e w1 ⟨rfl, b1⟩
    go_wp2_with (go_at_call 10; refine (HA.out _ b1).mono ?_)
    rintro e w2 ⟨rfl, b2⟩
    go_wp2
    go_ret
    exact ⟨rfl, b2⟩
  have HL1 : Hid (∀ W, Below w.heap.size w W → Calls Tryd.prog 9 #[.slice (some ⟨W.heap.size, 0, none⟩) 3 3] (W.alloc (.cells #[.string root, .string rest, .string more] 9)) fun e w' => e = .returned (.bool false) ∧ Below w.heap.size w w') := fun W hW => HL W false hb hW
  have h3 : root.size ≤ 3000 ∧ rest.size ≤ 3000 := by simp at hb; omega
  clear HL hb
  obtain ⟨hr3, hre3⟩ := h3
  have H1 := fun W hW => check_b root w W hm hr hW
  by_cases hc : Pth.chk root.data.toList = 0
  case neg =>
    generalize Pth.chk root.data.toList = a at *
    obtain ⟨f1, f2, f3, f4⟩ := ne_facts hc
    have H1 : Hid (∀ W, Below w.heap.size w W → Calls Tryd.prog 11 #[.string root] W fun e w' => e = .returned (.int .i64 (a : Nat)) ∧ Below w.heap.size w w') := H1
    clear hc hm hr hmo
    go_enter Tryd.func8, Tryd.ntmps8
    go_wp2_with (go_at_call 9; refine (HL1.out _ (Below.refl _ _)).mono ?_)
    rintro e w1 ⟨rfl, b1⟩
    go_wp2_with (go_at_call 11; refine (H1.out _ b1).mono ?_)
    rintro e w2 ⟨rfl, b2⟩
    go_wp2_with (go_at_call 10; refine (HA.out _ b2).mono ?_)
    rintro e w3 ⟨rfl, b3⟩
    go_wp2
    go_ret
    exact ⟨rfl, b3⟩
  have hrl : (root ++ (⟨#[47]⟩ : ByteArray) ++ rest).data.toList = root.data.toList ++ 47 :: rest.data.toList := by simp
  have hsz2 : (root ++ (⟨#[47]⟩ : ByteArray) ++ rest).size ≤ maxLen := by
    rw [ByteArray.size_append, ByteArray.size_append]
    have : (⟨#[47]⟩ : ByteArray).size = 1 := rfl
    unfold maxLen; omega
  have H2 := fun W hW => clean_b (root ++ (⟨#[47]⟩ : ByteArray) ++ rest) w W hm hsz2 hW
  rw [hrl] at H2
  obtain ⟨x, n, hx⟩ : ∃ x n, Pth.clean (root.data.toList ++ 47 :: rest.data.toList) = (x, n) := ⟨_, _, rfl⟩
  rw [hx] at H2
  have hU : Hid (n = 0 → Pth.two rest.data.toList = false → Pth.under root.data.toList x = true) := fun h0 ht => Pth.below hc (Pth.no_up ht) (h0 ▸ hx)
  have hsz := fun h : n = 0 => clean_size (h ▸ hx : _ = (x, 0))
  rw [hc] at H1
  have H1 : Hid (∀ W, Below w.heap.size w W → Calls Tryd.prog 11 #[.string root] W fun e w' => e = .returned (.int .i64 0) ∧ Below w.heap.size w w') := H1
  have H2 : Hid (∀ W, Below w.heap.size w W → Calls Tryd.prog 15 #[.string (root ++ (⟨#[47]⟩ : ByteArray) ++ rest)] W fun e w' => e = .returned (.tuple #[.string ⟨x.toArray⟩, .int .i64 (n : Nat)]) ∧ Below w.heap.size w w') := H2
  have H3 : Hid (∀ (a b : ByteArray) W, a.size ≤ maxLen → b.size ≤ maxLen → Below w.heap.size w W → Calls Tryd.prog 13 #[.string a, .string b] W fun e w' => e = .returned (.bool (Pth.under a.data.toList b.data.toList)) ∧ Below w.heap.size w w') := fun a b W ha hb hW => under_b a b w W hm ha hb hW
  have hxl : Hid ((⟨x.toArray⟩ : ByteArray).data.toList = x) := by show _ = _; simp
  generalize (⟨x.toArray⟩ : ByteArray) = p at *
  clear hc hm hrl hsz2 hx
  have hr' : Hid (root.size ≤ maxLen) := hr
  have hmo' : Hid (more.size ≤ maxLen) := hmo
  have hsz' : Hid (n = 0 → p.size ≤ maxLen) := hsz
  clear hr hmo hsz
  go_enter Tryd.func8, Tryd.ntmps8
  go_wp2_with (first | (go_at_call 9; refine (HL1.out _ (Below.refl _ _)).mono ?_; rintro e w1 ⟨rfl, b1⟩) | (go_at_call 11; refine (H1.out _ b1).mono ?_; rintro e w2 ⟨rfl, b2⟩))
  go_loop [7] (fun i => ∃ k : Nat, 1 ≤ k ∧ (k ≤ rest.size ∨ k = 1) ∧ i = .int .i64 k ∧ Hid (∀ i, i + 1 < k → ¬ (rest.data.toList[i]? = some 46 ∧ rest.data.toList[i + 1]? = some 46))) (fun i => rest.size + 1 - (intOf i).toNat)
  case atStart => exact ⟨1, Nat.le_refl _, .inr rfl, rfl, fun i h => by omega⟩
  case round =>
    obtain ⟨k, hk1, hk, rfl, hno⟩ := hrel
    by_cases hlt : k < rest.size
    · obtain ⟨j, rfl⟩ : ∃ j, k = j + 1 := ⟨k - 1, by omega⟩
      have hj : j < rest.size := by omega
      have hw1 : ((j + 1 : Nat) : Int) - 1 = (j : Int) := by omega
      by_cases hp1 : rest[j + 1] = 46
      · have e1 : ((rest[j + 1].toNat : Int) == 46) = true := by rw [hp1]; rfl
        by_cases hp0 : rest[j] = 46
        · have e0 : ((rest[j].toNat : Int) == 46) = true := by rw [hp0]; rfl
          clear hno hp0 hp1
          go_wp2_with (go_at_call 10; refine (HA.out _ b2).mono ?_)
          rintro e w3 ⟨rfl, b3⟩
          go_wp2
          go_ret
          exact ⟨rfl, b3⟩
        · have e0 : ((rest[j].toNat : Int) == 46) = false := by
            rw [beq_eq_false_iff_ne]; intro h; exact hp0 (UInt8.toNat_inj.1 (by show rest[j].toNat = 46; omega))
          have hn : Hid (∀ i, i + 1 < j + 1 + 1 → ¬ (rest.data.toList[i]? = some 46 ∧ rest.data.toList[i + 1]? = some 46)) := fun i hi => by
            by_cases h : i = j
            · subst h; rintro ⟨h1, _⟩; rw [at_byte hj] at h1; exact hp0 (Option.some.inj h1)
            · exact hno.out i (by omega)
          clear hno hp0 hp1
          go_wp2
          go_round
          case rel => exact ⟨j + 1 + 1, by omega, .inl (by omega), by go_num, hn⟩
          case measure => simp [intOf]; omega
      · have e1 : ((rest[j + 1].toNat : Int) == 46) = false := by
          rw [beq_eq_false_iff_ne]; intro h; exact hp1 (UInt8.toNat_inj.1 (by show rest[j + 1].toNat = 46; omega))
        have hn : Hid (∀ i, i + 1 < j + 1 + 1 → ¬ (rest.data.toList[i]? = some 46 ∧ rest.data.toList[i + 1]? = some 46)) := fun i hi => by
          by_cases h : i = j
          · subst h; rintro ⟨_, h1⟩; rw [at_byte hlt] at h1; exact hp1 (Option.some.inj h1)
          · exact hno.out i (by omega)
        clear hno hp1
        go_wp2
        go_round
        case rel => exact ⟨j + 1 + 1, by omega, .inl (by omega), by go_num, hn⟩
        case measure => simp [intOf]; omega
    · have ht : Hid (Pth.two rest.data.toList = false) := Pth.two_no (fun i hi => hno.out i (by rw [Oct.len_eq] at hi; omega))
      clear hno hk
      by_cases hn : n = 0
      case neg =>
        obtain ⟨g1, g2, g3, g4⟩ := ne_facts hn
        clear hn
        go_wp2_with (first
          | (go_at_call 15; refine (H2.out _ (by assumption)).mono ?_; rintro e w' ⟨rfl, b'⟩)
          | (go_at_call 10; refine (HA.out _ (by assumption)).mono ?_; rintro e w' ⟨rfl, b'⟩))
        go_ret
        exact ⟨rfl, by assumption⟩
      case pos =>
        subst hn
        have hUt := hU.out rfl ht.out
        have hps := hsz'.out rfl
        have K1 : Hid (∀ W, Below w.heap.size w W → Calls Tryd.prog 13 #[.string root, .string p] W fun e w' => e = .returned (.bool true) ∧ Below w.heap.size w w') := fun W hW => by
          have := H3.out root p W hr'.out hps hW; rw [hxl.out, hUt] at this; exact this
        have K2 := fun W hW => H3.out p more W hps hmo'.out hW
        have K3 := fun W hW => H3.out root more W hr'.out hmo'.out hW
        have hT : Pth.under x more.data.toList = true → Pth.under root.data.toList more.data.toList = true := fun h => Pth.under_trans hUt h
        rw [hxl.out] at K2
        have H2 : Hid (∀ W, Below w.heap.size w W → Calls Tryd.prog 15 #[.string (root ++ (⟨#[47]⟩ : ByteArray) ++ rest)] W fun e w' => e = .returned (.tuple #[.string p, .int .i64 0]) ∧ Below w.heap.size w w') := H2.out
        clear hUt hU hxl hps H3 ht
        cases hu : Pth.under x more.data.toList
        · rw [hu] at K2
          have K2 : Hid (∀ W, Below w.heap.size w W → Calls Tryd.prog 13 #[.string p, .string more] W fun e w' => e = .returned (.bool false) ∧ Below w.heap.size w w') := K2
          clear hT K3 hu
          go_wp2_with (first
            | (go_at_call 15; refine (H2.out _ (by assumption)).mono ?_; rintro e w' ⟨rfl, b'⟩)
            | (go_at_call 13; (first | with_reducible refine (K1.out _ (by assumption)).mono ?_ | with_reducible refine (K2.out _ (by assumption)).mono ?_); rintro e w' ⟨rfl, b'⟩)
            | (go_at_call 10; refine (HA.out _ (by assumption)).mono ?_; rintro e w' ⟨rfl, b'⟩))
          go_ret
          exact ⟨rfl, by assumption⟩
        · rw [hu] at K2
          rw [hT hu] at K3
          have K2 : Hid (∀ W, Below w.heap.size w W → Calls Tryd.prog 13 #[.string p, .string more] W fun e w' => e = .returned (.bool true) ∧ Below w.heap.size w w') := K2
          have K3 : Hid (∀ W, Below w.heap.size w W → Calls Tryd.prog 13 #[.string root, .string more] W fun e w' => e = .returned (.bool true) ∧ Below w.heap.size w w') := K3
          clear hT hu
          go_wp2_with (first
            | (go_at_call 15; refine (H2.out _ (by assumption)).mono ?_; rintro e w' ⟨rfl, b'⟩)
            | (go_at_call 13; (first | with_reducible refine (K1.out _ (by assumption)).mono ?_ | with_reducible refine (K2.out _ (by assumption)).mono ?_ | with_reducible refine (K3.out _ (by assumption)).mono ?_); rintro e w' ⟨rfl, b'⟩)
            | (go_at_call 10; refine (HA.out _ (by assumption)).mono ?_; rintro e w' ⟨rfl, b'⟩))
          go_ret
          exact ⟨rfl, by assumption⟩
end Go.Proofs.YtkbemfhdamdglaaDoor
