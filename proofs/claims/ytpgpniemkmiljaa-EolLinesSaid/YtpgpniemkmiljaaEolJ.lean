/- Contracts: the document's own At; Line of package eol. -/
import Derived.Test.YtpgpniemkmiljaaEolI
namespace Go.Proofs.Ytpgpniemkmiljaa
open Go.ChangeShapes Go.WideShapes Go.ChangeAt Go.RowKit
set_option linter.unusedVariables false

set_option maxRecDepth 100000 in
set_option maxHeartbeats 2000000 in
theorem rat_any (w : World) (A : Option Addr) (n c L p : Nat) (l : List UInt8) (hn : l.length = n) (hc : n ≤ 1099511627776) (hL2 : L ≤ 9223372036854775807) (hp : IsStart l L p) (hs : Sees w A (vB l)) :
    Calls Try.prog 28 #[.slice A n c, .int .i64 L] w fun e w' => e = .returned (.int .i64 p) ∧ w = w' := by
  have HP := Lib.hid hp
  have hpn : p ≤ n := by have := hp.le; omega
  have HR := Lib.hid (fun k (hk : k ≤ n) => rwhere_any w A n c k l hn hc hk hs)
  clear hp hs hn
  go_enter Try.func28, Try.ntmps28
  go_wp2_with fail
  go_loop [5, 6, 7] (fun i _ _ => ∃ k : Nat, k ≤ p ∧ i = .int .i64 k) (fun i _ _ => p - (intOf i).toNat)
  case atStart => exact ⟨0, Nat.zero_le _, rfl⟩
  case round =>
    obtain ⟨k, hk, rfl⟩ := hrel
    have hk2 : (k : Int) ≤ (n : Int) := by omega
    by_cases hlt : k < p
    · have hr := HR.out k (by omega)
      have hno : ¬ (lineN l k = L ∧ colN l k = 0) := fun h => by
        have := start_unique (⟨by have := HP.out.le; omega, h.1, h.2⟩ : IsStart l L k) HP.out; omega
      obtain ⟨x, hx⟩ : ∃ x, lineN l k = x := ⟨_, rfl⟩
      obtain ⟨y, hy⟩ : ∃ y, colN l k = y := ⟨_, rfl⟩
      rw [hx, hy] at hr hno
      have HQ := Lib.hid hr
      clear hr hx hy
      by_cases hxL : x = L
      · have hy0 : y ≠ 0 := fun h => hno ⟨hxL, h⟩
        have t1 : ((x : Int) == (L : Int)) = true := by simp [hxL]
        have t2 : ((y : Int) == 0) = false := by simpa using hy0
        clear hno hxL hy0
        go_wp2_with (go_at_call 24; refine HQ.out.mono ?_; rintro e w' ⟨rfl, rfl⟩)
        go_round
        case rel => exact ⟨k + 1, by omega, by go_num⟩
        case measure => simp [intOf]; omega
      · have t1 : ((x : Int) == (L : Int)) = false := by simp; omega
        clear hno hxL
        go_wp2_with (go_at_call 24; refine HQ.out.mono ?_; rintro e w' ⟨rfl, rfl⟩)
        go_round
        case rel => exact ⟨k + 1, by omega, by go_num⟩
        case measure => simp [intOf]; omega
    · obtain rfl : k = p := by omega
      have hr := HR.out k hpn
      rw [HP.out.line, HP.out.col] at hr
      have HQ := Lib.hid hr
      clear hr
      go_wp2_with (go_at_call 24; refine HQ.out.mono ?_; rintro e w' ⟨rfl, rfl⟩)
      go_ret
      exact ⟨rfl, rfl⟩

/-- What Line tells of a line that there is. -/
def LinePost (w : World) (l : List UInt8) (p e : Nat) (x : Ending) (w' : World) : Prop :=
  ∃ A c, x = .returned (.tuple #[.slice A (e - p) c, .int .i64 0]) ∧ Sees w' A (vB ((l.drop p).take (e - p))) ∧ Below w.heap.size w w'

set_option maxRecDepth 100000 in
set_option maxHeartbeats 1000000 in
theorem line_bad (w : World) (A : Option Addr) (n c : Nat) (L : Int)
    (h : Calls Try.prog 26 #[.slice A n c, .int .i64 L] w fun e w' => e = .returned (.tuple #[.int .i64 0, .int .i64 3]) ∧ w = w') :
    Calls Try.prog 27 #[.slice A n c, .int .i64 L] w fun e w' => e = .returned (.tuple #[.slice none 0 0, .int .i64 3]) ∧ w = w' := by
  have H := Lib.hid h
  clear h
  go_enter Try.func27, Try.ntmps27
  go_wp2_with (go_at_call 26; refine H.out.mono ?_; rintro e w' ⟨rfl, rfl⟩)
  go_ret2
  exact ⟨rfl, rfl⟩

set_option maxRecDepth 100000 in
set_option maxHeartbeats 2000000 in
theorem line_any (w : World) (A : Option Addr) (n c L p e : Nat) (l : List UInt8) (hn : l.length = n) (hnc : n ≤ c) (hc : n ≤ 1099511627776) (hcm : c ≤ 9223372036854775807) (hL : 1 ≤ L) (hL2 : L ≤ 9223372036854775807) (hp : IsStart l L p) (he : EndOf l p e) (hs : Sees w A (vB l)) :
    Calls Try.prog 27 #[.slice A n c, .int .i64 L] w (LinePost w l p e) := by
  have HA := Lib.hid (show Calls Try.prog 26 #[.slice A n c, .int .i64 L] w fun e w' => e = .returned (.tuple #[.int .i64 p, .int .i64 0]) ∧ w = w' from
    (at_any w A n c L l hn hnc hc hcm hL hL2 hs).mono fun x w' h => by
      refine ⟨?_, h.2⟩
      rcases h.1 with ⟨q, hq, e1⟩ | ⟨h1, _⟩
      · rw [start_unique hp hq]; exact e1
      · have := (start_bd hp).2; omega)
  have hpn : p ≤ n := by have := hp.le; omega
  have hen : e ≤ n := by have := he.size; omega
  have hpe := he.le
  have e1 : (0 : Int) ≤ (p : Int) := by omega
  have e2 : (p : Int) ≤ (n : Int) := by omega
  have hDR := hs.drop (k := p) (cap := c) (by rw [vB_len, hn]; exact hnc)
  rw [← vB_drop] at hDR
  have HI := Lib.hid (bIndex_any w _ (n - p) (c - p) (l.drop p) 10 (by rw [List.length_drop, hn]) hDR)
  have HD := Lib.hid hDR
  have hlen : ((l.drop p).take (e - p)).length = e - p := by rw [List.length_take, List.length_drop, hn]; omega
  have HT := Lib.hid (by have h := hDR.take (e - p); rwa [← vB_take] at h)
  by_cases hi : Lib.indexByte (l.drop p) 10 < 0
  · have hq : ∀ cv : Int, cv = 10 → Lib.indexByte (l.drop p) cv.toNat.toUInt8 = -1 := by rintro _ rfl; exact (index_none hi).1
    rw [hq 10 rfl] at HI
    have hee := EndOf.unique he (end_none hp.le hi)
    rw [hn] at hee
    subst hee
    have HC := Lib.hid (bClone_any w _ (e - p) (c - p) _ hlen (by omega) HT.out)
    clear hi hq hDR hlen hs hn hp he
    by_cases hcp : c = p
    · subst hcp
      rw [if_pos rfl] at HI HC
      obtain rfl : c = e := by omega
      rw [Nat.sub_self] at HI HC
      go_enter Try.func27, Try.ntmps27
      go_wp2_with (first
        | (go_at_call 26; refine HA.out.mono ?_; rintro e w' ⟨rfl, rfl⟩)
        | (go_at_call 73; refine HI.out.mono ?_; rintro e w' ⟨rfl, rfl⟩)
        | (go_at_call 72; refine HC.out.mono ?_; rintro x w1 ⟨A1, c1, rfl, ho1, hb1⟩; have HO := Lib.hid ho1; clear ho1))
      go_ret2
      exact ⟨A1, c1, by rw [Nat.sub_self]; rfl, by rw [Nat.sub_self]; exact b_sees HO.out, hb1⟩
    · rw [if_neg hcp] at HI HC
      go_enter Try.func27, Try.ntmps27
      go_wp2_with (first
        | (go_at_call 26; refine HA.out.mono ?_; rintro e w' ⟨rfl, rfl⟩)
        | (go_at_call 73; refine HI.out.mono ?_; rintro e w' ⟨rfl, rfl⟩)
        | (go_at_call 72; refine HC.out.mono ?_; rintro x w1 ⟨A1, c1, rfl, ho1, hb1⟩; have HO := Lib.hid ho1; clear ho1))
      go_ret2
      exact ⟨A1, c1, rfl, b_sees HO.out, hb1⟩
  · obtain ⟨q, hk1, hk2, hk3, hk4⟩ := index_some (show 0 ≤ Lib.indexByte (l.drop p) 10 by omega)
    have hq : ∀ cv : Int, cv = 10 → Lib.indexByte (l.drop p) cv.toNat.toUInt8 = (q : Int) := by rintro _ rfl; exact hk1
    rw [hq 10 rfl] at HI
    have hee := EndOf.unique he (end_some hp.le hk2 hk3 hk4).1
    have hqn : p + q < n := by rw [List.length_drop, hn] at hk2; omega
    have hqe : e - p = q := by omega
    rw [hqe] at HT hlen
    have HC := Lib.hid (bClone_any w _ q (c - p) _ hlen (by omega) HT.out)
    have hcp : ¬ c = p := by omega
    rw [if_neg hcp] at HI HC
    have hqc : (q : Int) ≤ ((c - p : Nat) : Int) := by omega
    have hqc2 : q ≤ c - p := by omega
    clear hi hq hDR hlen hs hn hp he hk1 hk2 hk3 hk4 hee
    go_enter Try.func27, Try.ntmps27
    go_wp2_with (first
      | (go_at_call 26; refine HA.out.mono ?_; rintro e w' ⟨rfl, rfl⟩)
      | (go_at_call 73; refine HI.out.mono ?_; rintro e w' ⟨rfl, rfl⟩)
      | (go_at_call 72; refine HC.out.mono ?_; rintro x w1 ⟨A1, c1, rfl, ho1, hb1⟩; have HO := Lib.hid ho1; clear ho1))
    go_ret2
    exact ⟨A1, c1, by rw [hqe]; rfl, by rw [hqe]; exact b_sees HO.out, hb1⟩
end Go.Proofs.Ytpgpniemkmiljaa
