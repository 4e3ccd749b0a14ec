/-
  Layer 9: what is written is read as it was (mathematics of GreetBack).
-/
import Derived.Test.YtpndcbilnbihaabDoorGf2
import Derived.Test.YtpndcbilnbihaabDoorGc2
namespace Go.Proofs.YtpndcbilnbihaabDoor
namespace Gr
/-! a wrapped text is found -/
theorem drop_behind (a : List UInt8) (c : UInt8) (b : List UInt8) : (a ++ c :: b).drop (a.length + 1) = b := by
  rw [← List.drop_drop, List.drop_left]; rfl
theorem scan_pass (S : ByteArray) (n : Nat) : ∀ (k i : Nat) (f : Int), i + k ≤ S.size → (∀ j, i ≤ j → j < i + k → (h : j < S.size) → bad S[j] = false) → scanR S (n + k) i f = scanR S n (i + k) f
  | 0, i, f, _, _ => rfl
  | k + 1, i, f, hk, hb => by
    have hi : i < S.size := by omega
    have h0 := hb i (Nat.le_refl _) (by omega) hi
    have hn0 : S[i] ≠ 0 := by intro e; rw [e] at h0; exact absurd h0 (by decide)
    have hn16 : S[i] ≠ 16 := by intro e; rw [e] at h0; exact absurd h0 (by decide)
    have e : scanR S (n + (k + 1)) i f = if S[i] = 16 then scanR S (n + k) (i + 1) (i + 1) else if S[i] = 0 ∧ 0 ≤ f ∧ (i : Int) - f ≤ 300 then (S.extract f.toNat i, S.extract (i + 1) S.size, true) else scanR S (n + k) (i + 1) f := by
      rw [← at_getD S i hi]; rfl
    rw [e, if_neg hn16, if_neg (fun h => hn0 h.1), scan_pass S n k (i + 1) f (by omega) (fun j a b c => hb j (by omega) (by omega) c)]
    rw [show i + 1 + k = i + (k + 1) by omega]
theorem at_list (S : ByteArray) (j : Nat) (h : j < S.size) (c : UInt8) (hc : S.data.toList[j]? = some c) : S[j] = c := by
  have : S.data.toList[j]? = some S[j] := by rw [List.getElem?_eq_getElem (by rw [Array.length_toList]; exact h)]; rfl
  rw [this] at hc
  exact Option.some.inj hc
theorem bad_mem {l : List UInt8} (h : l.any bad = false) {c : UInt8} (hc : c ∈ l) : bad c = false := by
  rw [List.any_eq_false] at h
  have := h c hc
  simpa using this
theorem scan_found (s x : ByteArray) (hs : s.size ≤ 300) (h1 : s.data.toList.any bad = false) (h2 : x.data.toList.any bad = false) : scan (x ++ (⟨#[16]⟩ ++ s ++ ⟨#[0]⟩) ++ x) = (s, x, true) := by
  obtain ⟨S, hS⟩ : ∃ S, x ++ (⟨#[16]⟩ ++ s ++ ⟨#[0]⟩) ++ x = S := ⟨_, rfl⟩
  have hl : S.data.toList = x.data.toList ++ (16 :: (s.data.toList ++ (0 :: x.data.toList))) := by
    rw [← hS]; simp only [ByteArray.data_append, Array.toList_append]; simp
  have hxl : x.data.toList.length = x.size := by rw [Array.length_toList]; rfl
  have hsl : s.data.toList.length = s.size := by rw [Array.length_toList]; rfl
  have hSz : S.size = x.size + (s.size + (x.size + 1)) + 1 := by
    have : S.data.toList.length = S.size := by rw [Array.length_toList]; rfl
    rw [← this, hl]; simp only [List.length_append, List.length_cons, hxl, hsl]; omega
  rw [hS]
  unfold scan
  have p1 : scanR S S.size 0 (-1) = scanR S (s.size + (x.size + 1) + 1) (0 + x.size) (-1) := by
    rw [show S.size = (s.size + (x.size + 1) + 1) + x.size by omega]
    refine scan_pass S _ x.size 0 (-1) (by omega) (fun j _ hj h => ?_)
    have hjx : j < x.data.toList.length := by omega
    rw [at_list S j h x.data.toList[j] (by rw [hl, List.getElem?_append_left hjx, List.getElem?_eq_getElem hjx])]
    exact bad_mem h2 (List.getElem_mem hjx)
  have h16 : (h : 0 + x.size < S.size) → S[0 + x.size] = 16 := fun h => at_list S _ h 16 (by rw [hl, Nat.zero_add, List.getElem?_append_right (by omega), hxl, Nat.sub_self]; rfl)
  have hlt1 : 0 + x.size < S.size := by omega
  have p2 : scanR S (s.size + (x.size + 1) + 1) (0 + x.size) (-1) = scanR S (s.size + (x.size + 1)) (0 + x.size + 1) (((0 + x.size : Nat) : Int) + 1) := by
    have e := scan_step (f := -1) hlt1
    rw [show S.size - (0 + x.size) = s.size + (x.size + 1) + 1 by omega, if_pos (h16 hlt1), show S.size - (0 + x.size + 1) = s.size + (x.size + 1) by omega] at e
    exact e
  have p3 : scanR S (s.size + (x.size + 1)) (0 + x.size + 1) (((0 + x.size : Nat) : Int) + 1) = scanR S (x.size + 1) (0 + x.size + 1 + s.size) (((0 + x.size : Nat) : Int) + 1) := by
    rw [Nat.add_comm s.size]
    refine scan_pass S _ s.size _ _ (by omega) (fun j hj1 hj2 h => ?_)
    have hjs : j - (x.size + 1) < s.data.toList.length := by omega
    rw [at_list S j h s.data.toList[j - (x.size + 1)] (by
      rw [hl, List.getElem?_append_right (by omega), hxl, show j - x.size = (j - (x.size + 1)) + 1 by omega, List.getElem?_cons_succ, List.getElem?_append_left hjs, List.getElem?_eq_getElem hjs])]
    exact bad_mem h1 (List.getElem_mem hjs)
  have hlt2 : 0 + x.size + 1 + s.size < S.size := by omega
  have h0 : S[0 + x.size + 1 + s.size] = 0 := at_list S _ hlt2 0 (by
    rw [hl, List.getElem?_append_right (by omega), hxl, show 0 + x.size + 1 + s.size - x.size = s.size + 1 by omega, List.getElem?_cons_succ, List.getElem?_append_right (by omega), hsl, Nat.sub_self]; rfl)
  have p4 := scan_step (f := ((0 + x.size : Nat) : Int) + 1) hlt2
  rw [show S.size - (0 + x.size + 1 + s.size) = x.size + 1 by omega, if_neg (by rw [h0]; decide), if_pos ⟨h0, by omega, by push_cast; omega⟩] at p4
  rw [p1, p2, p3, p4]
  refine Prod.ext ?_ (Prod.ext ?_ rfl)
  · show S.extract (((0 + x.size : Nat) : Int) + 1).toNat (0 + x.size + 1 + s.size) = s
    apply ByteArray.ext
    apply Array.toList_inj.1
    rw [ByteArray.data_extract, Array.toList_extract, hl]
    show (List.drop _ (x.data.toList ++ 16 :: (s.data.toList ++ 0 :: x.data.toList))).take _ = _
    rw [show (((0 + x.size : Nat) : Int) + 1).toNat = x.data.toList.length + 1 by omega, drop_behind, show 0 + x.size + 1 + s.size - (x.data.toList.length + 1) = s.data.toList.length by omega, List.take_left]
  · show S.extract (0 + x.size + 1 + s.size + 1) S.size = x
    rw [ba_drop, hl]
    apply ByteArray.ext
    apply Array.toList_inj.1
    show List.drop _ (x.data.toList ++ 16 :: (s.data.toList ++ 0 :: x.data.toList)) = _
    rw [show 0 + x.size + 1 + s.size + 1 = x.data.toList.length + 1 + (s.data.toList.length + 1) by omega, ← List.drop_drop, drop_behind, drop_behind]
/-! a caller is read as it was -/
theorem sys_nb {l : List UInt8} (h : Nam.system l = true) : ∀ c ∈ l, c ≠ 32 := by
  rintro c hc rfl
  rw [sys_blank hc] at h
  cases h
theorem call_back (y : ByteArray) (n : Nat) (hy : Nam.system y.data.toList = true) (hn : n ≤ 1099511627776) : pcl (⟨#[83]⟩ ++ y ++ ⟨#[32, 45, 81]⟩ ++ ⟨(Lib.itoa (n : Int)).toArray⟩ : ByteArray).data.toList = (y.data.toList, n, 0) := by
  have e : (⟨#[83]⟩ ++ y ++ ⟨#[32, 45, 81]⟩ ++ ⟨(Lib.itoa (n : Int)).toArray⟩ : ByteArray).data.toList = 83 :: (y.data.toList ++ sep ++ Lib.itoa (n : Int)) := by
    simp only [ByteArray.data_append, Array.toList_append]; simp [sep]
  rw [e, pcl_yes (sys_nb hy), Oct.number_itoa hn, if_pos ⟨hy, rfl⟩]
/-! letters are read as they were -/
theorem offer_back (s : ByteArray) (h : lets s.data.toList = true) : poffer (⟨#[80]⟩ ++ s) = (s, 0) := by
  have e : (⟨#[80]⟩ ++ s : ByteArray).data.toList = 80 :: s.data.toList := by simp only [ByteArray.data_append, Array.toList_append]; simp
  unfold poffer
  rw [e, if_pos ⟨by simp [Lib.hasPrefix, List.isPrefixOf], h⟩]
  rfl
theorem lets_pos {s : ByteArray} (h : lets s.data.toList = true) : 0 < s.size := by
  rcases Nat.eq_zero_or_pos s.size with h0 | h0
  · have := drop_end s 0 (by omega)
    rw [List.drop_zero] at this
    rw [this] at h
    cases h
  · exact h0
theorem choose_back (s : ByteArray) (h : lets s.data.toList = true) (h0 : 0 < s.size) : choose s.data.toList s.data.toList = (s[0].toNat : Int) := by
  have e := drop_at s 0 h0
  rw [List.drop_zero] at e
  rw [choose_eq]
  have hk : known s[0] = true := by
    unfold lets at h
    rw [Bool.and_eq_true, Bool.and_eq_true, List.all_eq_true] at h
    exact h.1.1 _ (Oct.mem_at s 0 h0)
  have hp : pick s.data.toList s[0] = true := by
    unfold pick
    rw [hk, Bool.true_and, List.contains_iff_mem]
    exact Oct.mem_at s 0 h0
  have : s.data.toList.find? (pick s.data.toList) = some s[0] := by
    conv => lhs; arg 2; rw [e]
    rw [List.find?_cons, hp]
  rw [this]; rfl
end Gr
end Go.Proofs.YtpndcbilnbihaabDoor
