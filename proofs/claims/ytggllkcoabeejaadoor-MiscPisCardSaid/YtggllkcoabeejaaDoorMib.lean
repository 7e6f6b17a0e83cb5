/- The document's At and Find. -/
import Derived.Test.YtggllkcoabeejaaDoorMia
import Derived.Test.YtggllkcoabeejaaDoorNamf
import Derived.Test.YtggllkcoabeejaaDoorStr
namespace Go.Proofs.YtggllkcoabeejaaDoor
open Go.ChangeShapes Go.WideShapes Go.ChangeAt Go.RowKit
set_option linter.unusedVariables false
set_option maxRecDepth 100000

theorem occ_take (l sub : List UInt8) (k : Nat) : Lib.occAt l sub k = decide ((l.drop k).take sub.length = sub) := by
  unfold Lib.occAt
  rw [Bool.eq_iff_iff, List.isPrefixOf_iff_prefix, decide_eq_true_eq, List.prefix_iff_eq_take]
  exact eq_comm
theorem occ_short {l sub : List UInt8} {k : Nat} (h : l.length < k + sub.length) (h0 : sub ≠ []) : Lib.occAt l sub k = false := by
  rw [occ_take, decide_eq_false_iff_not]
  intro h1
  have := congrArg List.length h1
  have h2 : 0 < sub.length := by cases sub with | nil => exact absurd rfl h0 | cons _ _ => simp
  simp at this
  omega
/-- The first place from one on at which a text stands. -/
def fndV (l sub : List UInt8) (k : Nat) : Int := if Lib.index (l.drop k) sub < 0 then -1 else k + Lib.index (l.drop k) sub
theorem occ_drop (l sub : List UInt8) (k j : Nat) : Lib.occAt (l.drop k) sub j = Lib.occAt l sub (k + j) := by unfold Lib.occAt; rw [List.drop_drop]
theorem fnd_hit {l sub : List UInt8} {k i : Nat} (h1 : k ≤ i) (h2 : i ≤ l.length) (h3 : ∀ j, k ≤ j → j < i → Lib.occAt l sub j = false) (h4 : Lib.occAt l sub i = true) : fndV l sub k = i := by
  have h := Lib.index_first (s := l.drop k) (sub := sub) (i := i - k) (by simp; omega) (by rw [occ_drop, show k + (i - k) = i by omega]; exact h4) (fun j hj => by rw [occ_drop]; exact h3 _ (by omega) (by omega))
  unfold fndV
  rw [h, if_neg (by omega)]
  omega
theorem fnd_none {l sub : List UInt8} {k : Nat} (hk : k ≤ l.length) (h3 : ∀ j, k ≤ j → j ≤ l.length → Lib.occAt l sub j = false) : fndV l sub k = -1 := by
  have h := Lib.index_none (s := l.drop k) (sub := sub) (fun j hj => by rw [occ_drop]; exact h3 _ (by omega) (by simp at hj; omega))
  unfold fndV
  rw [h, if_pos (by omega)]
set_option maxHeartbeats 1000000 in
theorem rat_any (l sub : List UInt8) (A : Option Addr) (n c k : Nat) (w : World) (hn : l.length = n) (hnc : n ≤ c) (hm : c ≤ 9223372036854775807) (hk : k ≤ n) (hs : Sees w A (vB l)) (h0 : sub ≠ []) (h9 : sub.length ≤ 1000) :
    Calls Tryd.prog 22 #[.slice A n c, .int .i64 k, strV sub] w fun e w' => e = .returned (.bool (Lib.occAt l sub k)) ∧ w = w' := by
  have hsz := str_size sub
  by_cases hlt : n < k + sub.length
  · rw [occ_short (by rw [hn]; exact hlt) h0]
    have d1 : ¬ ((sub.length : Int) ≤ (n : Int) - (k : Int)) := by omega
    go_enter Tryd.func22, Tryd.ntmps22
    go_wp2_with fail
    go_ret
    exact ⟨rfl, rfl⟩
  · have h1 : 0 < sub.length := by cases sub with | nil => exact absurd rfl h0 | cons _ _ => simp
    have d1 : (sub.length : Int) ≤ (n : Int) - (k : Int) := by omega
    obtain ⟨ad, rfl, hcell⟩ := hs.byte (k := k) (by omega)
    have hsd : Sees w (some (ad.add k)) (vB ((l.drop k).take sub.length)) := by
      have h1 := hs.drop (k := k) (cap := c) (by rw [vB_len]; omega)
      rw [if_neg (by omega), ← vB_drop] at h1
      have h2 := h1.take sub.length
      rw [← vB_take] at h2
      exact h2
    have kc := conv_sees w (some (ad.add k)) sub.length (c - k) _ (by simp; omega) hsd
    have HO := Lib.hid (occ_take l sub k)
    obtain ⟨m, hmm⟩ : ∃ m, sub.length = m := ⟨_, rfl⟩
    rw [hmm] at d1 kc HO hsz hlt h9 h1
    clear hcell hsd
    go_enter Tryd.func22, Tryd.ntmps22
    go_wp2_with fail
    go_ret
    refine ⟨ret_bool ?_, rfl⟩
    rw [HO.out, Bool.eq_iff_iff, beq_iff_eq, decide_eq_true_eq]
set_option maxHeartbeats 1000000 in
theorem rfind_any (l sub : List UInt8) (A : Option Addr) (n c k : Nat) (w : World) (hn : l.length = n) (hnc : n ≤ c) (hm : c ≤ 9223372036854775807) (hn9 : n ≤ 1000000000) (hk : k ≤ n) (hs : Sees w A (vB l)) (h0 : sub ≠ []) (h9 : sub.length ≤ 1000) :
    Calls Tryd.prog 14 #[.slice A n c, .int .i64 k, strV sub] w fun e w' => e = .returned (.int .i64 (fndV l sub k)) ∧ w = w' := by
  have HA := Lib.hid (fun (i : Nat) (hi : i ≤ n) => rat_any l sub A n c i w hn hnc hm hi hs h0 h9)
  have HH := Lib.hid (fun (i : Nat) (h1 : k ≤ i) (h2 : i ≤ n) (h3 : ∀ j, k ≤ j → j < i → Lib.occAt l sub j = false) (h4 : Lib.occAt l sub i = true) => fnd_hit (l := l) (sub := sub) h1 (by omega) h3 h4)
  have HN := Lib.hid (fun (h3 : ∀ j, k ≤ j → j ≤ n → Lib.occAt l sub j = false) => fnd_none (l := l) (sub := sub) (k := k) (by omega) (fun j h1 h2 => h3 j h1 (by omega)))
  obtain ⟨z, hz⟩ : ∃ z, fndV l sub k = z := ⟨_, rfl⟩
  rw [hz] at HH HN
  rw [hz]
  clear hz hs hn
  go_enter Tryd.func14, Tryd.ntmps14
  go_wp2_with fail
  go_loop [7] (fun i => ∃ j : Nat, k ≤ j ∧ j ≤ n + 1 ∧ i = .int .i64 j ∧ Hid (∀ t, k ≤ t → t < j → Lib.occAt l sub t = false)) (fun i => n + 1 - (intOf i).toNat)
  case atStart => exact ⟨k, by omega, by omega, rfl, fun t h1 h2 => absurd h1 (by omega)⟩
  case round =>
    obtain ⟨j, hkj, hj, rfl, HT⟩ := hrel
    by_cases hlt : j ≤ n
    · have d1 : (j : Int) ≤ (n : Int) := by omega
      have H1' := HA.out j hlt
      cases hq : Lib.occAt l sub j with
      | true =>
        rw [hq] at H1'
        have H1 := Lib.hid H1'
        have HZ := Lib.hid (HH.out j hkj hlt HT.out hq)
        clear hq H1'
        go_wp2_with fail
        refine H1.out.mono ?_
        rintro e w1 ⟨rfl, rfl⟩
        go_wp2_with fail
        go_ret
        exact ⟨by have h := HZ.out; subst h; rfl, rfl⟩
      | false =>
        rw [hq] at H1'
        have H1 := Lib.hid H1'
        have HT2 : Hid (∀ t, k ≤ t → t < j + 1 → Lib.occAt l sub t = false) := fun t h1 h2 => by
          by_cases ht : t = j
          · rw [ht]; exact hq
          · exact HT.out t h1 (by omega)
        clear hq H1'
        go_wp2_with fail
        refine H1.out.mono ?_
        rintro e w1 ⟨rfl, rfl⟩
        go_wp2_with fail
        go_round
        case rel => exact ⟨j + 1, by omega, by omega, by go_num, HT2⟩
        case measure => simp [intOf]; omega
    · have d1 : ¬ ((j : Int) ≤ (n : Int)) := by omega
      have HZ := Lib.hid (HN.out (fun t h1 h2 => HT.out t h1 (by omega)))
      go_wp2_with fail
      go_ret
      exact ⟨by have h := HZ.out; subst h; rfl, rfl⟩
end Go.Proofs.YtggllkcoabeejaaDoor
