/-
  Walk of one of layer 1's statements: OctetBack.
-/
import Derived.Test.YtakgmpebgaiinaaDoorLaws3
namespace Go.Proofs.YtakgmpebgaiinaaDoor
open Go.RowKit

theorem getBack (l P : List UInt8) (n : Nat) (size : Int) (w : World) (hl : l.length ≤ 3000) (hP : (P.length : Int) = size) (hs : size ≤ 4) (hg : Oct.get (l ++ P ++ l) (l.length : Int) size = (n, 0)) :
    Calls Tryd.prog 19 #[.string (⟨l.toArray⟩ ++ ⟨P.toArray⟩ ++ ⟨l.toArray⟩), .int .i64 (l.length : Int), .int .i64 size] w fun e w' => e = .returned (.tuple #[.int .i64 (n : Int), .int .i64 0]) ∧ w' = w := by
  rw [ba_app l P, ba_app (l ++ P) l]
  have h := get_any ⟨(l ++ P ++ l).toArray⟩ (l.length : Int) size w (by show (l ++ P ++ l).length ≤ maxLen; unfold maxLen; simp; omega) (by omega)
  have e : Oct.get (⟨(l ++ P ++ l).toArray⟩ : ByteArray).data.toList (l.length : Int) size = (n, 0) := hg
  rw [e] at h
  exact h

set_option maxHeartbeats 2000000 in
theorem back_walk (n : Int) (hn0 : -9223372036854775808 ≤ n) (hn1 : n ≤ 9223372036854775807) (size : Int) (_hz0 : -9223372036854775808 ≤ size) (_hz1 : size ≤ 9223372036854775807) (s : ByteArray) (hs : s.size ≤ maxLen)
    (w : World) (htab : Lib.TabIs Tryd.prog w "internal/strconv.uint64pow10" .u64 Lib.pow10Tab) :
    Calls Tryd.prog 7 #[.int .i64 n, .int .i64 size, .string s] w fun e w' => e = .returned (.bool true) ∧ Below w.heap.size w w' := by
  have b0 : Below w.heap.size w (w.alloc (.cells #[.string s] 9)) := (Below.refl _ w).alloc (Nat.le_refl _) _
  have HT : Hid (Lib.TabIs Tryd.prog (w.alloc (.cells #[.string s] 9)) "internal/strconv.uint64pow10" .u64 Lib.pow10Tab) := tab_below htab b0
  clear htab
  have HL : ∀ L, L = decide (3000 < s.size) → _ := long_any s w.heap.size (w.alloc (.cells #[.string s] 9)) hs (by rw [Lib.cell_of_heap (MapKept.heap_alloc w _).1 0]; rfl)
  by_cases h3 : 3000 < s.size
  · have HL1 := HL true (decide_eq_true h3).symm
    clear HL h3
    go_enter Tryd.func7, Tryd.ntmps7
    go_wp2_with (go_at_call 9; refine HL1.mono ?_)
    rintro e w1 ⟨rfl, rfl⟩
    go_wp2_with (go_at_call 10; refine (awake_any _ HT.out).mono ?_)
    rintro e w2 ⟨rfl, b2⟩
    go_wp2
    go_ret
    exact ⟨rfl, b0.trans (b2.mono b0.size)⟩
  have HL1 := HL false (decide_eq_false h3).symm
  have hlen := Oct.len_eq s
  have HQ := fun w => quote_any s w (by omega)
  have hsl := s_of_list s
  generalize s.data.toList = l at *
  have hl3 : l.length ≤ 3000 := by omega
  clear HL h3 hs hlen
  subst hsl
  have HX := text_any n (w.alloc (.cells #[.string ⟨l.toArray⟩] 9)) hn0 hn1 HT.out
  have hil := Lib.itoa_length_le n hn0 hn1
  have HN := fun w => number_any ⟨(Lib.itoa n).toArray⟩ w (by show (Lib.itoa n).length ≤ maxLen; unfold maxLen; omega)
  have HP := fun w => put_any n size w hn0 hn1
  have hgp := Oct.get_put (n := n) (size := size) l
  have hp4 : (Oct.put n size).2 = 0 → size ≤ 4 := fun h => by
    by_cases hx : size ≤ 4
    · exact hx
    · rw [Oct.put_arg (by omega)] at h; simp at h
  have hseen := Oct.quote_seen l
  have hql := Oct.quote_len l
  have HU := fun w => unquote_tuple ⟨(Oct.quote l).toArray⟩ w (by show (Oct.quote l).length ≤ _; omega) l (Oct.unquote_quote l)
  have hneg := fun h => Oct.number_neg (n := n) h
  have hpos : ∀ q : Nat, n = (q : Int) → q ≤ 1099511627776 → Oct.number (Lib.itoa n) = (q, 0) := fun q e h => by rw [e]; exact Oct.number_itoa h
  have HN2 : ∀ w, Calls Tryd.prog 11 #[.string ⟨(Lib.itoa n).toArray⟩] w fun e w' => e = .returned (.tuple #[.int .i64 ((Oct.number (Lib.itoa n)).1 : Int), .int .i64 ((Oct.number (Lib.itoa n)).2 : Int)]) ∧ w' = w := HN
  clear HN
  generalize Oct.number (Lib.itoa n) = R at *
  generalize Lib.itoa n = I at *
  generalize Oct.quote l = Q at *
  have hQ9 : Q.length ≤ 9000 := by omega
  obtain ⟨v, er⟩ := R
  have HN' : Hid (∀ w, Calls Tryd.prog 11 #[.string ⟨I.toArray⟩] w fun e w' => e = .returned (.tuple #[.int .i64 (v : Int), .int .i64 (er : Int)]) ∧ w' = w) := HN2
  have HQ' : Hid _ := HQ
  have HU' : Hid _ := HU
  have hseen' : Hid _ := hseen
  clear HN2 HQ HU hseen hql hil
  have hPO : (Oct.put n size).2 = 0 ∨ (Oct.put n size).2 ≠ 0 := by omega
  generalize Oct.put n size = PP at *
  obtain ⟨P, pe⟩ := PP
  have HP' : Hid (∀ w : World, Calls Tryd.prog 15 #[.int .i64 n, .int .i64 size] w fun e w' => e = .returned (.tuple #[.string ⟨P.toArray⟩, .int .i64 (pe : Int)]) ∧ Below w.heap.size w w') := HP
  clear HP
  have hp4' : Hid (pe = 0 → size ≤ 4) := hp4
  clear hp4
  have hgp' : Hid (pe = 0 → Oct.get (l ++ P ++ l) (l.length : Int) size = (n.toNat, 0) ∧ (P.length : Int) = size ∧ 0 ≤ n) := hgp
  clear hgp
  have hpo' : pe = 0 ∨ pe ≠ 0 := hPO
  clear hPO
  by_cases h0 : n < 0
  · have hr := hneg h0
    obtain ⟨rfl, rfl⟩ : v = 0 ∧ er = 3 := by simpa using hr
    have HNx : Hid (∀ w, Calls Tryd.prog 11 #[.string ⟨I.toArray⟩] w fun e w' => e = .returned (.tuple #[.int .i64 0, .int .i64 3]) ∧ w' = w) := HN'.out
    have hpe : pe ≠ 0 := by
      rcases hpo' with h | h
      · have := (hgp'.out h).2.2; omega
      · exact h
    have dpe : ((pe : Int) == 0) = false := by rw [beq_eq_false_iff_ne]; omega
    have HPx : Hid (∀ w : World, Calls Tryd.prog 15 #[.int .i64 n, .int .i64 size] w fun e w' => e = .returned (.tuple #[.string ⟨P.toArray⟩, .int .i64 (pe : Int)]) ∧ Below w.heap.size w w') := HP'.out
    have d1 : decide (0 ≤ n) = false := by simp; omega
    have d2 : decide (n < 0) = true := by simp; omega
    clear hr hneg hpos hpo' hpe hgp' h0 hp4' HN' HP'
    go_enter Tryd.func7, Tryd.ntmps7
    go_wp2_with (go_at_call 9; refine HL1.mono ?_)
    rintro e w1 ⟨rfl, rfl⟩
    go_wp2_with (go_at_call 13; refine HX.mono ?_)
    rintro e w1 ⟨rfl, b1⟩
    go_wp2_with (go_at_call 11; refine (HNx.out _).mono ?_)
    rintro e w2 ⟨rfl, rfl⟩
    go_wp2_with (go_at_call 15; refine (HPx.out _).mono ?_)
    rintro e w3 ⟨rfl, b3⟩
    have B3 := b1.trans (b3.mono b1.size)
    go_wp2_with (go_at_call 23; refine (HQ'.out _).mono ?_)
    rintro e w5 ⟨rfl, b5⟩
    have B5 := B3.trans (b5.mono B3.size)
    go_wp2
    go_loop [87] (fun i => ∃ k : Nat, k ≤ Q.length ∧ i = .int .i64 k) (fun i => Q.length - (intOf i).toNat)
    case atStart => exact ⟨0, Nat.zero_le _, rfl⟩
    case round =>
      obtain ⟨k, hk, rfl⟩ := hrel
      by_cases hlt : k < Q.length
      · have hsz : k < (⟨Q.toArray⟩ : ByteArray).size := hlt
        have hb := hseen'.out ((⟨Q.toArray⟩ : ByteArray)[k]'hsz) (List.getElem_mem hlt)
        have hb1 : 33 ≤ (((⟨Q.toArray⟩ : ByteArray)[k]'hsz).toNat : Int) := by omega
        have hb2 : (((⟨Q.toArray⟩ : ByteArray)[k]'hsz).toNat : Int) ≤ 126 := by omega
        clear hb
        go_wp2
        go_round
        case rel => exact ⟨k + 1, by omega, by go_num⟩
        case measure => simp [intOf]; omega
      · go_wp2_with (go_at_call 21; refine (HU'.out _).mono ?_)
        rintro e w6 rfl b6
        have B6 := B5.trans (b6.mono B5.size)
        go_wp2_with (go_at_call 10; refine (awake_any _ (tab_below HT.out B6)).mono ?_)
        rintro e w7 ⟨rfl, b7⟩
        go_wp2
        go_ret
        have B7 := B6.trans (b7.mono B6.size)
        exact ⟨rfl, b0.trans (B7.mono b0.size)⟩
  · obtain ⟨q, rfl⟩ := Int.eq_ofNat_of_zero_le (show 0 ≤ n by omega)
    have d2 : decide ((q : Int) < 0) = false := by simp
    have d1 : decide (0 ≤ (q : Int)) = true := by simp
    clear h0 hneg
    by_cases hm : q ≤ 1099511627776
    · have hr := hpos q rfl hm
      obtain ⟨rfl, rfl⟩ : v = q ∧ er = 0 := by simpa using hr
      have HNx : Hid (∀ w, Calls Tryd.prog 11 #[.string ⟨I.toArray⟩] w fun e w' => e = .returned (.tuple #[.int .i64 (v : Int), .int .i64 0]) ∧ w' = w) := HN'.out
      have d3 : decide ((v : Int) ≤ 1099511627776) = true := by simp; omega
      have d4 : decide (v ≤ 1099511627776) = true := by simp; omega
      clear hr hpos
      by_cases hpe : pe = 0
      · subst hpe
        have HPx : Hid (∀ w : World, Calls Tryd.prog 15 #[.int .i64 (v : Int), .int .i64 size] w fun e w' => e = .returned (.tuple #[.string ⟨P.toArray⟩, .int .i64 0]) ∧ Below w.heap.size w w') := HP'.out
        obtain ⟨hg, hPl, _⟩ := hgp'.out rfl
        rw [Int.toNat_natCast] at hg
        have hs4 : size ≤ 4 := hp4'.out rfl
        have HG := fun w => getBack l P v size w hl3 hPl hs4 hg
        have HG' : Hid _ := HG
        have hP4 : P.length ≤ 4 := by omega
        have dsz : ((P.length : Int) != size) = false := by rw [bne_eq_false_iff_eq]; exact hPl
        clear hg hPl HG hgp' hpo' hp4' HN' HP'
        go_enter Tryd.func7, Tryd.ntmps7
        go_wp2_with (go_at_call 9; refine HL1.mono ?_)
        rintro e w1 ⟨rfl, rfl⟩
        go_wp2_with (go_at_call 13; refine HX.mono ?_)
        rintro e w1 ⟨rfl, b1⟩
        go_wp2_with (go_at_call 11; refine (HNx.out _).mono ?_)
        rintro e w2 ⟨rfl, rfl⟩
        go_wp2_with (go_at_call 15; refine (HPx.out _).mono ?_)
        rintro e w3 ⟨rfl, b3⟩
        have B3 := b1.trans (b3.mono b1.size)
        go_wp2_with (go_at_call 19; refine (HG'.out _).mono ?_)
        rintro e w4 ⟨rfl, rfl⟩
        go_wp2_with (go_at_call 23; refine (HQ'.out _).mono ?_)
        rintro e w5 ⟨rfl, b5⟩
        have B5 := B3.trans (b5.mono B3.size)
        go_wp2
        go_loop [87] (fun i => ∃ k : Nat, k ≤ Q.length ∧ i = .int .i64 k) (fun i => Q.length - (intOf i).toNat)
        case atStart => exact ⟨0, Nat.zero_le _, rfl⟩
        case round =>
          obtain ⟨k, hk, rfl⟩ := hrel
          by_cases hlt : k < Q.length
          · have hsz : k < (⟨Q.toArray⟩ : ByteArray).size := hlt
            have hb := hseen'.out ((⟨Q.toArray⟩ : ByteArray)[k]'hsz) (List.getElem_mem hlt)
            have hb1 : 33 ≤ (((⟨Q.toArray⟩ : ByteArray)[k]'hsz).toNat : Int) := by omega
            have hb2 : (((⟨Q.toArray⟩ : ByteArray)[k]'hsz).toNat : Int) ≤ 126 := by omega
            clear hb
            go_wp2
            go_round
            case rel => exact ⟨k + 1, by omega, by go_num⟩
            case measure => simp [intOf]; omega
          · go_wp2_with (go_at_call 21; refine (HU'.out _).mono ?_)
            rintro e w6 rfl b6
            have B6 := B5.trans (b6.mono B5.size)
            go_wp2_with (go_at_call 10; refine (awake_any _ (tab_below HT.out B6)).mono ?_)
            rintro e w7 ⟨rfl, b7⟩
            go_wp2
            go_ret
            have B7 := B6.trans (b7.mono B6.size)
            exact ⟨rfl, b0.trans (B7.mono b0.size)⟩
      · have dpe : ((pe : Int) == 0) = false := by rw [beq_eq_false_iff_ne]; omega
        have HPx : Hid (∀ w : World, Calls Tryd.prog 15 #[.int .i64 (v : Int), .int .i64 size] w fun e w' => e = .returned (.tuple #[.string ⟨P.toArray⟩, .int .i64 (pe : Int)]) ∧ Below w.heap.size w w') := HP'.out
        clear hpe hgp' hpo' hp4' HN' HP'
        go_enter Tryd.func7, Tryd.ntmps7
        go_wp2_with (go_at_call 9; refine HL1.mono ?_)
        rintro e w1 ⟨rfl, rfl⟩
        go_wp2_with (go_at_call 13; refine HX.mono ?_)
        rintro e w1 ⟨rfl, b1⟩
        go_wp2_with (go_at_call 11; refine (HNx.out _).mono ?_)
        rintro e w2 ⟨rfl, rfl⟩
        go_wp2_with (go_at_call 15; refine (HPx.out _).mono ?_)
        rintro e w3 ⟨rfl, b3⟩
        have B3 := b1.trans (b3.mono b1.size)
        go_wp2_with (go_at_call 23; refine (HQ'.out _).mono ?_)
        rintro e w5 ⟨rfl, b5⟩
        have B5 := B3.trans (b5.mono B3.size)
        go_wp2
        go_loop [87] (fun i => ∃ k : Nat, k ≤ Q.length ∧ i = .int .i64 k) (fun i => Q.length - (intOf i).toNat)
        case atStart => exact ⟨0, Nat.zero_le _, rfl⟩
        case round =>
          obtain ⟨k, hk, rfl⟩ := hrel
          by_cases hlt : k < Q.length
          · have hsz : k < (⟨Q.toArray⟩ : ByteArray).size := hlt
            have hb := hseen'.out ((⟨Q.toArray⟩ : ByteArray)[k]'hsz) (List.getElem_mem hlt)
            have hb1 : 33 ≤ (((⟨Q.toArray⟩ : ByteArray)[k]'hsz).toNat : Int) := by omega
            have hb2 : (((⟨Q.toArray⟩ : ByteArray)[k]'hsz).toNat : Int) ≤ 126 := by omega
            clear hb
            go_wp2
            go_round
            case rel => exact ⟨k + 1, by omega, by go_num⟩
            case measure => simp [intOf]; omega
          · go_wp2_with (go_at_call 21; refine (HU'.out _).mono ?_)
            rintro e w6 rfl b6
            have B6 := B5.trans (b6.mono B5.size)
            go_wp2_with (go_at_call 10; refine (awake_any _ (tab_below HT.out B6)).mono ?_)
            rintro e w7 ⟨rfl, b7⟩
            go_wp2
            go_ret
            have B7 := B6.trans (b7.mono B6.size)
            exact ⟨rfl, b0.trans (B7.mono b0.size)⟩
    · have d3 : decide ((q : Int) ≤ 1099511627776) = false := by simp; omega
      have d4 : decide (q ≤ 1099511627776) = false := by simp; omega
      have HNx : Hid (∀ w, Calls Tryd.prog 11 #[.string ⟨I.toArray⟩] w fun e w' => e = .returned (.tuple #[.int .i64 (v : Int), .int .i64 (er : Int)]) ∧ w' = w) := HN'.out
      clear hpos hm
      by_cases hpe : pe = 0
      · subst hpe
        have HPx : Hid (∀ w : World, Calls Tryd.prog 15 #[.int .i64 (q : Int), .int .i64 size] w fun e w' => e = .returned (.tuple #[.string ⟨P.toArray⟩, .int .i64 0]) ∧ Below w.heap.size w w') := HP'.out
        obtain ⟨hg, hPl, _⟩ := hgp'.out rfl
        rw [Int.toNat_natCast] at hg
        have hs4 : size ≤ 4 := hp4'.out rfl
        have HG := fun w => getBack l P q size w hl3 hPl hs4 hg
        have HG' : Hid _ := HG
        have hP4 : P.length ≤ 4 := by omega
        have dsz : ((P.length : Int) != size) = false := by rw [bne_eq_false_iff_eq]; exact hPl
        clear hg hPl HG hgp' hpo' hp4' HN' HP'
        go_enter Tryd.func7, Tryd.ntmps7
        go_wp2_with (go_at_call 9; refine HL1.mono ?_)
        rintro e w1 ⟨rfl, rfl⟩
        go_wp2_with (go_at_call 13; refine HX.mono ?_)
        rintro e w1 ⟨rfl, b1⟩
        go_wp2_with (go_at_call 11; refine (HNx.out _).mono ?_)
        rintro e w2 ⟨rfl, rfl⟩
        go_wp2_with (go_at_call 15; refine (HPx.out _).mono ?_)
        rintro e w3 ⟨rfl, b3⟩
        have B3 := b1.trans (b3.mono b1.size)
        go_wp2_with (go_at_call 19; refine (HG'.out _).mono ?_)
        rintro e w4 ⟨rfl, rfl⟩
        go_wp2_with (go_at_call 23; refine (HQ'.out _).mono ?_)
        rintro e w5 ⟨rfl, b5⟩
        have B5 := B3.trans (b5.mono B3.size)
        go_wp2
        go_loop [87] (fun i => ∃ k : Nat, k ≤ Q.length ∧ i = .int .i64 k) (fun i => Q.length - (intOf i).toNat)
        case atStart => exact ⟨0, Nat.zero_le _, rfl⟩
        case round =>
          obtain ⟨k, hk, rfl⟩ := hrel
          by_cases hlt : k < Q.length
          · have hsz : k < (⟨Q.toArray⟩ : ByteArray).size := hlt
            have hb := hseen'.out ((⟨Q.toArray⟩ : ByteArray)[k]'hsz) (List.getElem_mem hlt)
            have hb1 : 33 ≤ (((⟨Q.toArray⟩ : ByteArray)[k]'hsz).toNat : Int) := by omega
            have hb2 : (((⟨Q.toArray⟩ : ByteArray)[k]'hsz).toNat : Int) ≤ 126 := by omega
            clear hb
            go_wp2
            go_round
            case rel => exact ⟨k + 1, by omega, by go_num⟩
            case measure => simp [intOf]; omega
          · go_wp2_with (go_at_call 21; refine (HU'.out _).mono ?_)
            rintro e w6 rfl b6
            have B6 := B5.trans (b6.mono B5.size)
            go_wp2_with (go_at_call 10; refine (awake_any _ (tab_below HT.out B6)).mono ?_)
            rintro e w7 ⟨rfl, b7⟩
            go_wp2
            go_ret
            have B7 := B6.trans (b7.mono B6.size)
            exact ⟨rfl, b0.trans (B7.mono b0.size)⟩
      · have dpe : ((pe : Int) == 0) = false := by rw [beq_eq_false_iff_ne]; omega
        have HPx : Hid (∀ w : World, Calls Tryd.prog 15 #[.int .i64 (q : Int), .int .i64 size] w fun e w' => e = .returned (.tuple #[.string ⟨P.toArray⟩, .int .i64 (pe : Int)]) ∧ Below w.heap.size w w') := HP'.out
        clear hpe hgp' hpo' hp4' HN' HP'
        go_enter Tryd.func7, Tryd.ntmps7
        go_wp2_with (go_at_call 9; refine HL1.mono ?_)
        rintro e w1 ⟨rfl, rfl⟩
        go_wp2_with (go_at_call 13; refine HX.mono ?_)
        rintro e w1 ⟨rfl, b1⟩
        go_wp2_with (go_at_call 11; refine (HNx.out _).mono ?_)
        rintro e w2 ⟨rfl, rfl⟩
        go_wp2_with (go_at_call 15; refine (HPx.out _).mono ?_)
        rintro e w3 ⟨rfl, b3⟩
        have B3 := b1.trans (b3.mono b1.size)
        go_wp2_with (go_at_call 23; refine (HQ'.out _).mono ?_)
        rintro e w5 ⟨rfl, b5⟩
        have B5 := B3.trans (b5.mono B3.size)
        go_wp2
        go_loop [87] (fun i => ∃ k : Nat, k ≤ Q.length ∧ i = .int .i64 k) (fun i => Q.length - (intOf i).toNat)
        case atStart => exact ⟨0, Nat.zero_le _, rfl⟩
        case round =>
          obtain ⟨k, hk, rfl⟩ := hrel
          by_cases hlt : k < Q.length
          · have hsz : k < (⟨Q.toArray⟩ : ByteArray).size := hlt
            have hb := hseen'.out ((⟨Q.toArray⟩ : ByteArray)[k]'hsz) (List.getElem_mem hlt)
            have hb1 : 33 ≤ (((⟨Q.toArray⟩ : ByteArray)[k]'hsz).toNat : Int) := by omega
            have hb2 : (((⟨Q.toArray⟩ : ByteArray)[k]'hsz).toNat : Int) ≤ 126 := by omega
            clear hb
            go_wp2
            go_round
            case rel => exact ⟨k + 1, by omega, by go_num⟩
            case measure => simp [intOf]; omega
          · go_wp2_with (go_at_call 21; refine (HU'.out _).mono ?_)
            rintro e w6 rfl b6
            have B6 := B5.trans (b6.mono B5.size)
            go_wp2_with (go_at_call 10; refine (awake_any _ (tab_below HT.out B6)).mono ?_)
            rintro e w7 ⟨rfl, b7⟩
            go_wp2
            go_ret
            have B7 := B6.trans (b7.mono B6.size)
            exact ⟨rfl, b0.trans (B7.mono b0.size)⟩
end Go.Proofs.YtakgmpebgaiinaaDoor
