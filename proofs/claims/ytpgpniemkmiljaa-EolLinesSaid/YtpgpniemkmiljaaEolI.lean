/- Contracts: At and Line of package eol, and the document's own At. -/
import Derived.Test.YtpgpniemkmiljaaEolH
namespace Go.Proofs.Ytpgpniemkmiljaa
open Go.ChangeShapes Go.WideShapes Go.ChangeAt Go.RowKit
set_option linter.unusedVariables false

/-- What At tells of a line from 1 on. -/
def AtPost (l : List UInt8) (L : Nat) (w : World) (e : Ending) (w' : World) : Prop :=
  ((∃ p, IsStart l L p ∧ e = .returned (.tuple #[.int .i64 (p : Nat), .int .i64 0])) ∨ (lineN l l.length < L ∧ e = .returned (.tuple #[.int .i64 0, .int .i64 3]))) ∧ w = w'

set_option maxRecDepth 100000 in
set_option maxHeartbeats 1000000 in
theorem at_low (w : World) (A : Option Addr) (n c : Nat) (L : Int) (hL : L < 1) :
    Calls Try.prog 26 #[.slice A n c, .int .i64 L] w fun e w' => e = .returned (.tuple #[.int .i64 0, .int .i64 3]) ∧ w = w' := by
  go_enter Try.func26, Try.ntmps26
  go_wp2_with fail
  go_step3
  go_wp2_with fail
  try rw [Exit.noGoto_ret]
  go_ret2
  exact ⟨rfl, rfl⟩

set_option maxRecDepth 100000 in
set_option maxHeartbeats 4000000 in
theorem at_any (w : World) (A : Option Addr) (n c : Nat) (L : Nat) (l : List UInt8) (hn : l.length = n) (hnc : n ≤ c) (hc : n ≤ 1099511627776) (hcm : c ≤ 9223372036854775807) (hL : 1 ≤ L) (hL2 : L ≤ 9223372036854775807) (hs : Sees w A (vB l)) :
    Calls Try.prog 26 #[.slice A n c, .int .i64 L] w (AtPost l L w) := by
  have HN := Lib.hid hn
  have HS := Lib.hid hs
  clear hn hs
  go_enter Try.func26, Try.ntmps26
  go_wp2_with fail
  go_step3
  go_wp2_with fail
  go_step3
  go_wp2_with fail
  go_loop [6, 7, 8] (fun a i _ => ∃ k p : Nat, k + 1 ≤ L ∧ i = .int .i64 ((L : Int) - 1 - (k : Nat)) ∧ a = .int .i64 p ∧ Hid (IsStart l (k + 1) p)) (fun _ i _ => (intOf i).toNat)
  case atStart => exact ⟨0, 0, hL, by go_num, rfl, start_one l⟩
  case round =>
    obtain ⟨k, p, hk, rfl, rfl, HP⟩ := hrel
    have hpn : p ≤ n := by have := HP.out.le; rw [HN.out] at this; exact this
    by_cases hlt : k + 1 < L
    · have hDR := HS.out.drop (k := p) (cap := c) (by rw [vB_len, HN.out]; exact hnc)
      rw [← vB_drop] at hDR
      have HI := Lib.hid (bIndex_any w _ (n - p) (c - p) (l.drop p) 10 (by rw [List.length_drop, HN.out]) hDR)
      have e1 : (0 : Int) ≤ (p : Int) := by omega
      have e2 : (p : Int) ≤ (n : Int) := by omega
      have e3 : (0 : Int) < (L : Int) - 1 - (k : Int) := by omega
      by_cases hi : Lib.indexByte (l.drop p) 10 < 0
      · have hq : ∀ cv : Int, cv = 10 → Lib.indexByte (l.drop p) cv.toNat.toUInt8 = -1 := by rintro _ rfl; exact (index_none hi).1
        rw [hq 10 rfl] at HI
        have HL := Lib.hid (last_line HP.out (end_none HP.out.le hi))
        clear hi hq hDR
        by_cases hcp : c = p
        · subst hcp
          rw [if_pos rfl] at HI
          obtain rfl : c = n := by omega
          rw [Nat.sub_self] at HI
          go_wp2_with (go_at_call 73; refine HI.out.mono ?_; rintro e w' ⟨rfl, rfl⟩)
          try rw [Exit.noGoto_ret]
          go_ret2
          exact ⟨.inr ⟨by rw [HL.out]; omega, rfl⟩, rfl⟩
        · rw [if_neg hcp] at HI
          go_wp2_with (go_at_call 73; refine HI.out.mono ?_; rintro e w' ⟨rfl, rfl⟩)
          try rw [Exit.noGoto_ret]
          go_ret2
          exact ⟨.inr ⟨by rw [HL.out]; omega, rfl⟩, rfl⟩
      · obtain ⟨q, hk1, hk2, hk3, hk4⟩ := index_some (show 0 ≤ Lib.indexByte (l.drop p) 10 by omega)
        have hq : ∀ cv : Int, cv = 10 → Lib.indexByte (l.drop p) cv.toNat.toUInt8 = (q : Int) := by rintro _ rfl; exact hk1
        rw [hq 10 rfl] at HI
        have he := end_some HP.out.le hk2 hk3 hk4
        have HX := Lib.hid (start_next HP.out he.1 he.2)
        have hpq : p + q < n := by rw [List.length_drop, HN.out] at hk2; omega
        have hcp : ¬ c = p := by omega
        rw [if_neg hcp] at HI
        clear hi hq hDR hk1 hk2 hk3 hk4 he
        go_wp2_with (go_at_call 73; refine HI.out.mono ?_; rintro e w' ⟨rfl, rfl⟩)
        go_round
        case rel => exact ⟨k + 1, p + q + 1, by omega, by go_num, by go_num, HX⟩
        case measure => simp [intOf]; omega
    · obtain rfl : L = k + 1 := by omega
      have e3 : ¬ (0 : Int) < ((k + 1 : Nat) : Int) - 1 - (k : Int) := by omega
      go_wp2_with fail
      try rw [Exit.noGoto_ret]
      go_ret2
      exact ⟨.inl ⟨p, HP.out, rfl⟩, rfl⟩
end Go.Proofs.Ytpgpniemkmiljaa
