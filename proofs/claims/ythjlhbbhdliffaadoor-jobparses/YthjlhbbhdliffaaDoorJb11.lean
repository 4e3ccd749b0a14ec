/-
  Walks of layer 5: the document's cut.
-/
import Derived.Test.YthjlhbbhdliffaaDoorJb10
namespace Go.Proofs.YthjlhbbhdliffaaDoor
open Go.RowKit

namespace Job
def np (c : UInt8) : Bool := c != 32
def pre (l : Bs) : Bs := l.takeWhile np
def post (l : Bs) : Bs := (l.dropWhile np).drop 1
theorem np32 : np 32 = false := by decide
theorem nb_np {a : Bs} (h : (32 : UInt8) ∉ a) : a.all np = true := by
  rw [List.all_eq_true]; intro x hx; simp only [np, bne_iff_ne]; intro e; exact h (e ▸ hx)
theorem pre_app {a r : Bs} (ha : a.all np = true) : pre (a ++ 32 :: r) = a := Nam.takeWhile_app ha np32
theorem post_app {a r : Bs} (ha : a.all np = true) : post (a ++ 32 :: r) = r := by unfold post; rw [Nam.dropWhile_app ha np32]; rfl
theorem pre_all {a : Bs} (ha : a.all np = true) : pre a = a := by
  unfold pre
  induction a with
  | nil => rfl
  | cons x r ih => simp only [List.all_cons, Bool.and_eq_true] at ha; rw [List.takeWhile_cons_of_pos ha.1, ih ha.2]
theorem post_all {a : Bs} (ha : a.all np = true) : post a = [] := by
  unfold post
  have : a.dropWhile np = [] := by
    induction a with
    | nil => rfl
    | cons x r ih => simp only [List.all_cons, Bool.and_eq_true] at ha; rw [List.dropWhile_cons_of_pos ha.1, ih ha.2]
  rw [this]; rfl
theorem pre_len (l : Bs) : (pre l).length ≤ l.length := (List.takeWhile_sublist np).length_le
theorem post_len (l : Bs) : (post l).length ≤ l.length := by
  unfold post
  rw [List.length_drop]
  have := (List.dropWhile_sublist np (l := l)).length_le
  omega
theorem cut_at (s : ByteArray) (k : Nat) (h : k < s.size) (h1 : (s.data.toList.take k).all np = true) (h2 : s[k] = 32) : pre s.data.toList = s.data.toList.take k ∧ post s.data.toList = s.data.toList.drop (k + 1) := by
  have e : s.data.toList = s.data.toList.take k ++ 32 :: s.data.toList.drop (k + 1) := by
    have hl : k < s.data.toList.length := by rw [Oct.len_eq]; exact h
    have hd : s.data.toList.drop k = s.data.toList[k] :: s.data.toList.drop (k + 1) := List.drop_eq_getElem_cons hl
    have hk : s.data.toList[k] = 32 := h2
    rw [hk] at hd
    rw [← hd, List.take_append_drop]
  constructor
  · conv => lhs; rw [e]
    exact pre_app h1
  · conv => lhs; rw [e]
    exact post_app h1
theorem np_snoc (s : ByteArray) (k : Nat) (h : k < s.size) (h1 : (s.data.toList.take k).all np = true) (h2 : s[k] ≠ 32) : (s.data.toList.take (k + 1)).all np = true := by
  rw [Oct.take_snoc s k h, List.all_append, h1]; simp [np, h2]

/-- the job that the document reads -/
def candR (l : Bs) : Jb :=
  ⟨(Nam.pid (pre (post l))).1, (Nam.pid (pre (post l))).2.1, kofR (pre l), ⟨(pre (post (post l))).toArray⟩, ⟨(pre (post (post (post l)))).toArray⟩, ⟨(pre (post (post (post (post l))))).toArray⟩,
   ⟨(post (post (post (post (post (post l)))))).toArray⟩, ((Oct.number (pre (post (post (post (post (post l))))))).1 : Int)⟩
theorem candR_says {s : Bs} {j : Jb} (h : says s j) : candR s = j ∧ (Nam.pid (pre (post s))).2.2 = 0 ∧ (Oct.number (pre (post (post (post (post (post s))))))).2 = 0 := by
  obtain ⟨h1, h2, h3, h4, h5, h6, h7, h8⟩ := chk_ok.1 h.1
  have b0 := nb_np (nb_ltr j.k)
  have b1 := nb_np (nb_id h1)
  have b2 := nb_np (nb_usr h3)
  have b3 := nb_np (nb_path h4)
  have b4 := nb_np (nb_path h5)
  have b5 := nb_np (nb_itoa h7)
  have hn : Oct.number (Lib.itoa j.z) = (j.z.toNat, 0) := by
    obtain ⟨n, hz⟩ := Int.eq_ofNat_of_zero_le h7
    rw [hz]
    exact Oct.number_itoa (by omega)
  have e8 : ((j.z.toNat : Nat) : Int) = j.z := by omega
  rw [← h.2]
  by_cases hk : j.k = 2
  · have e : txt j = ltr j.k ++ 32 :: (Nam.idT j.g j.n ++ 32 :: (j.u.data.toList ++ 32 :: (j.f.data.toList ++ 32 :: (j.t.data.toList ++ 32 :: (Lib.itoa j.z ++ 32 :: j.c.data.toList))))) := by
      unfold txt ws; rw [if_pos hk]; rfl
    unfold candR
    rw [e]
    simp only [pre_app b0, post_app b0, pre_app b1, post_app b1, pre_app b2, post_app b2, pre_app b3, post_app b3, pre_app b4, post_app b4, pre_app b5, post_app b5, Nam.pid_id h1, hn, kofR_ltr h2, e8]
    exact ⟨by first | rfl | trivial, by first | rfl | trivial, by first | rfl | trivial⟩
  · have e : txt j = ltr j.k ++ 32 :: (Nam.idT j.g j.n ++ 32 :: (j.u.data.toList ++ 32 :: (j.f.data.toList ++ 32 :: (j.t.data.toList ++ 32 :: Lib.itoa j.z)))) := by
      unfold txt ws; rw [if_neg hk]; rfl
    have hc := cmd_empty h6 hk
    unfold candR
    rw [e]
    simp only [pre_app b0, post_app b0, pre_app b1, post_app b1, pre_app b2, post_app b2, pre_app b3, post_app b3, pre_app b4, post_app b4, pre_all b5, post_all b5, Nam.pid_id h1, hn, kofR_ltr h2, e8]
    refine ⟨?_, by first | rfl | trivial, by first | rfl | trivial⟩
    cases j
    simp only at hc ⊢
    rw [hc]
end Job

theorem ret_two_s {a b c d : ByteArray} (h : a = c) (h' : b = d) : Ending.returned (.tuple #[.string a, .string b]) = .returned (.tuple #[.string c, .string d]) := by rw [h, h']

set_option maxHeartbeats 1000000 in
theorem rcut_any (s : ByteArray) (w : World) (hs : s.size ≤ 1000000) :
    Calls Tryd.prog 31 #[.string s] w fun e w' => e = .returned (.tuple #[.string ⟨(Job.pre s.data.toList).toArray⟩, .string ⟨(Job.post s.data.toList).toArray⟩]) ∧ Below w.heap.size w w' := by
  go_enter Tryd.func31, Tryd.ntmps31
  go_wp2
  go_loop [7] (fun i => ∃ k : Nat, k ≤ s.size ∧ i = .int .i64 k ∧ Hid ((s.data.toList.take k).all Job.np = true)) (fun i => s.size - (intOf i).toNat)
  case atStart => exact ⟨0, Nat.zero_le _, rfl, rfl⟩
  case round =>
    obtain ⟨k, hk, rfl, hall⟩ := hrel
    by_cases hlt : k < s.size
    · by_cases hc : s[k] = 32
      · have hv : Hid (Job.pre s.data.toList = s.data.toList.take k ∧ Job.post s.data.toList = s.data.toList.drop (k + 1)) := Job.cut_at s k hlt hall.out hc
        have hb : ((s[k].toNat : Int) == 32) = true := by rw [hc]; rfl
        have i1 : (k : Int) ≤ (s.size : Int) := by omega
        have i2 : (k : Int) + 1 ≤ (s.size : Int) := by omega
        clear hc hall
        go_wp2
        go_quiet (skip)
        go_wp2
        go_ret2
        exact ⟨ret_two_s (by rw [hv.out.1]; exact extract_take s k) (by rw [hv.out.2]; exact extract_drop s (k + 1)), below_drewN (Below.refl _ _) _⟩
      · have hn : Hid ((s.data.toList.take (k + 1)).all Job.np = true) := Job.np_snoc s k hlt hall.out hc
        have hb : ((s[k].toNat : Int) == 32) = false := by
          rw [beq_eq_false_iff_ne]; intro h; exact hc (UInt8.toNat_inj.1 (by show s[k].toNat = 32; omega))
        clear hc hall
        go_wp2
        go_round
        case rel => exact ⟨k + 1, by omega, by go_num, hn⟩
        case measure => simp [intOf]; omega
    · obtain rfl : k = s.size := by omega
      have hv : Hid ((s.data.toList).all Job.np = true) := by have := hall.out; rwa [Oct.take_all s s.size (Nat.le_refl _)] at this
      clear hall
      go_wp2
      go_ret2
      exact ⟨ret_two_s (by rw [Job.pre_all hv.out]) (by rw [Job.post_all hv.out]), Below.refl _ _⟩
end Go.Proofs.YthjlhbbhdliffaaDoor
