/- The walk of UtfReads. -/
import Derived.Test.YtfppkjogdahnbaaUtfM
namespace Go.Proofs.Ytfppkjogdahnbaa
open Go.ChangeShapes Go.WideShapes Go.ChangeAt Go.RowKit
set_option linter.unusedVariables false

theorem own_cap' {w : World} {base : Nat} {e : TypeId} {A : Option Addr} {n m c size : Nat} {xs : List Value} (h : w.ownsRow base e size (.slice A m c) n xs) : n ≤ c ∧ c ≤ 9223372036854775807 := by
  rcases h.2 with ⟨h1, h2⟩ | ⟨g, cap, cur, h1, _, _, h4, h5, _⟩
  · injection h1 with _ _ h3; omega
  · injection h1 with _ _ h3; unfold maxLen at h5; omega
theorem rrunes_good (A : Option Addr) (len cap : Nat) (l : List UInt8) (hlen : l.length = len) (hsmall : len ≤ 17592186044416) (w : World) (hs : Sees w A (vB l)) (h : badS l = none) :
    Calls Try.prog 31 #[.slice A len cap] w fun e W' => ∃ A' c', e = .returned (.tuple #[.slice A' (runesS l).length c', .int .i64 (-1)]) ∧ Sees W' A' ((runesS l).map (Value.int .i64)) ∧ Below w.heap.size w W' :=
  (rrunes_any A len cap l hlen hsmall w hs).mono fun e W' ⟨h1, _, hb⟩ => by
    obtain ⟨v, he, ho⟩ := h1 h
    obtain ⟨A', c', rfl⟩ := ownsRow_form ho
    exact ⟨A', c', he, sees_own ho, hb⟩
theorem rrunes_bad (A : Option Addr) (len cap k : Nat) (l : List UInt8) (hlen : l.length = len) (hsmall : len ≤ 17592186044416) (w : World) (hs : Sees w A (vB l)) (h : badS l = some k) :
    Calls Try.prog 31 #[.slice A len cap] w fun e W' => e = .returned (.tuple #[.slice none 0 0, .int .i64 (k : Int)]) ∧ Below w.heap.size w W' :=
  (rrunes_any A len cap l hlen hsmall w hs).mono fun e W' ⟨_, h2, hb⟩ => ⟨h2 k h, hb⟩
theorem check_good (A : Option Addr) (len cap : Nat) (l : List UInt8) (hlen : l.length = len) (hnc : len ≤ cap) (hcap : cap ≤ 9223372036854775807) (w : World) (hs : Sees w A (vB l)) (h : badS l = none) :
    Calls Try.prog 32 #[.slice A len cap] w fun e W' => e = .returned (.tuple #[.int .i64 len, .int .i64 0]) ∧ Below w.heap.size w W' := by
  have := check_any A len cap l hlen hnc hcap w hs
  unfold checkV at this
  rw [if_pos h, hlen] at this
  exact this
theorem check_bad (A : Option Addr) (len cap k : Nat) (l : List UInt8) (hlen : l.length = len) (hnc : len ≤ cap) (hcap : cap ≤ 9223372036854775807) (w : World) (hs : Sees w A (vB l)) (h : badS l = some k) :
    Calls Try.prog 32 #[.slice A len cap] w fun e W' => e = .returned (.tuple #[.int .i64 k, .int .i64 5]) ∧ Below w.heap.size w W' := by
  have := check_any A len cap l hlen hnc hcap w hs
  unfold checkV at this
  rw [h, if_neg (by simp)] at this
  exact this

/-- Runes and Check of one text, whatever it is: the place told by the one is that told by the other. -/
structure Told (l : List UInt8) (A : Option Addr) (n c : Nat) (w : World) (v : Value) (p k f : Int) : Prop where
  runes : ∀ W, Sees W A (vB l) → Calls Try.prog 31 #[.slice A n c] W fun e W' => ∃ A' m c', e = .returned (.tuple #[.slice A' m c', .int .i64 p]) ∧ Below W.heap.size W W'
  check : ∀ W, Sees W A (vB l) → Calls Try.prog 32 #[.slice A n c] W fun e W' => e = .returned (.tuple #[.int .i64 k, .int .i64 f]) ∧ Below W.heap.size W W'
  good : (p = -1 ∧ k = n ∧ f = 0) ∨ (0 ≤ p ∧ k = p ∧ f = 5)
theorem told (l : List UInt8) (A : Option Addr) (n c : Nat) (w : World) (hlen : l.length = n) (hnc : n ≤ c) (hcap : c ≤ 9223372036854775807) (hsmall : n ≤ 17592186044416) : ∃ v p k f, Told l A n c w v p k f := by
  cases h : badS l with
  | none => exact ⟨.bool true, -1, n, 0, fun W hs => (rrunes_good A n c l hlen hsmall W hs h).mono fun e W' ⟨A', c', he, _, hb⟩ => ⟨A', _, c', he, hb⟩, fun W hs => check_good A n c l hlen hnc hcap W hs h, .inl ⟨rfl, rfl, rfl⟩⟩
  | some k => exact ⟨.bool true, k, k, 5, fun W hs => (rrunes_bad A n c k l hlen hsmall W hs h).mono fun e W' ⟨he, hb⟩ => ⟨none, 0, 0, he, hb⟩, fun W hs => check_bad A n c k l hlen hnc hcap W hs h, .inr ⟨by omega, rfl, rfl⟩⟩

set_option maxRecDepth 100000 in
set_option maxHeartbeats 4000000 in
theorem utfReads_far (A : Option Addr) (n c : Nat) (at_ : Int) (w : World) (h : 300 < n) :
    Calls Try.prog 7 #[.slice A n c, .int .i64 at_] w fun e w' => e = .returned (.bool true) ∧ Below w.heap.size w w' := by
  go_enter Try.func7, Try.ntmps7
  go_wp2_with (go_at_call 28; refine (live02_any _).mono ?_; rintro e w3 ⟨rfl, hb3⟩)
  go_ret
  exact ⟨rfl, hb3⟩

set_option maxRecDepth 100000 in
set_option maxHeartbeats 4000000 in
theorem utfReads_out (l : List UInt8) (A : Option Addr) (n c : Nat) (at_ : Int) (w : World) (hlen : l.length = n) (hnc : n ≤ c) (hcap : c ≤ 9223372036854775807) (hn : n ≤ 300) (hs : Sees w A (vB l)) (ho : at_ < 0 ∨ (n : Int) ≤ at_) :
    Calls Try.prog 7 #[.slice A n c, .int .i64 at_] w fun e w' => e = .returned (.bool true) ∧ Below w.heap.size w w' := by
  obtain ⟨v, p, k, f, T⟩ := told l A n c w hlen hnc hcap (by omega)
  have HD := Lib.hid (decode_out l A n c at_ w ho)
  have HT := Lib.hid T
  have hg := T.good
  clear T
  have HS := Lib.hid hs
  clear hs hlen
  rcases hg with ⟨rfl, rfl, rfl⟩ | ⟨hp, rfl, rfl⟩
  all_goals
    by_cases h0 : at_ < 0
    all_goals
      go_enter Try.func7, Try.ntmps7
      go_wp2_with (first
        | (go_at_call 29; refine HD.out.mono ?_; rintro e w0 ⟨rfl, rfl⟩)
        | (go_at_call 31; refine (HT.out.runes _ HS.out).mono ?_; rintro e w1 ⟨A', m', c', rfl, hb1⟩; have hs1 := Lib.hid (HS.out.below hb1))
        | (go_at_call 32; refine (HT.out.check _ hs1.out).mono ?_; rintro e w2 ⟨rfl, hb2⟩)
        | (go_at_call 28; refine (live02_any _).mono ?_; rintro e w3 ⟨rfl, hb3⟩))
      go_ret
      exact ⟨rfl, hb1.trans ((hb2.trans (hb3.mono hb2.size)).mono hb1.size)⟩

set_option maxRecDepth 100000 in
set_option maxHeartbeats 4000000 in
theorem utfReads_in (l : List UInt8) (A : Option Addr) (n c j : Nat) (w : World) (hlen : l.length = n) (hnc : n ≤ c) (hcap : c ≤ 9223372036854775807) (hn : n ≤ 300) (hs : Sees w A (vB l)) (hj : j < n) :
    Calls Try.prog 7 #[.slice A n c, .int .i64 j] w fun e w' => e = .returned (.bool true) ∧ Below w.heap.size w w' := by
  obtain ⟨v, p, k, f, T⟩ := told l A n c w hlen hnc hcap (by omega)
  have HT := Lib.hid T
  have hg := T.good
  clear T
  have t1 : (0 : Int) ≤ (j : Int) := by omega
  have t2 : (j : Int) < (n : Int) := by omega
  by_cases hc : (chrAt l j).2 = 0
  · have HD := Lib.hid (decode_err l A n c j w hlen hnc hcap hj hs hc)
    have HC := Lib.hid (fun W hs => rchar_err l A n c j W hlen (by omega) hj hs hc)
    have HS := Lib.hid hs
    clear hs hlen hc
    rcases hg with ⟨rfl, rfl, rfl⟩ | ⟨hp, rfl, rfl⟩
    all_goals
      go_enter Try.func7, Try.ntmps7
      go_wp2_with (first
        | (go_at_call 29; refine HD.out.mono ?_; rintro e w0 ⟨rfl, rfl⟩)
        | (go_at_call 31; refine (HT.out.runes _ HS.out).mono ?_; rintro e w1 ⟨A', m', c', rfl, hb1⟩; have hs1 := Lib.hid (HS.out.below hb1))
        | (go_at_call 32; refine (HT.out.check _ hs1.out).mono ?_; rintro e w2 ⟨rfl, hb2⟩; have hs2 := Lib.hid (hs1.out.below hb2))
        | (go_at_call 33; refine (HC.out _ hs2.out).mono ?_; rintro e w3 ⟨rfl, hb3⟩)
        | (go_at_call 28; refine (live02_any _).mono ?_; rintro e w4 ⟨rfl, hb4⟩))
      go_ret
      exact ⟨rfl, hb1.trans ((hb2.trans ((hb3.trans (hb4.mono hb3.size)).mono hb2.size)).mono hb1.size)⟩
  · obtain ⟨r, m, hrm⟩ : ∃ r m, chrAt l j = (r, m) := ⟨_, _, rfl⟩
    rw [hrm] at hc
    have hroom := chrAt_room l j (by omega)
    rw [hrm] at hroom
    simp only [] at hc hroom
    have HD := Lib.hid (decode_ok l A n c j w hlen hnc hcap hj hs r m hrm hc)
    have HC := Lib.hid (fun W hs => rchar_ok l A n c j W hlen (by omega) hj hs r m hrm)
    have HS := Lib.hid hs
    have t3 : ((m : Int) == 0) = false := by simp; omega
    have t4 : m ≤ 4 := hroom.2
    clear hs hlen hc hrm hroom
    rcases hg with ⟨rfl, rfl, rfl⟩ | ⟨hp, rfl, rfl⟩
    all_goals
      go_enter Try.func7, Try.ntmps7
      go_wp2_with (first
        | (go_at_call 29; refine HD.out.mono ?_; rintro e w0 ⟨rfl, rfl⟩)
        | (go_at_call 31; refine (HT.out.runes _ HS.out).mono ?_; rintro e w1 ⟨A', m', c', rfl, hb1⟩; have hs1 := Lib.hid (HS.out.below hb1))
        | (go_at_call 32; refine (HT.out.check _ hs1.out).mono ?_; rintro e w2 ⟨rfl, hb2⟩; have hs2 := Lib.hid (hs1.out.below hb2))
        | (go_at_call 33; refine (HC.out _ hs2.out).mono ?_; rintro e w3 ⟨rfl, hb3⟩)
        | (go_at_call 28; refine (live02_any _).mono ?_; rintro e w4 ⟨rfl, hb4⟩))
      go_ret
      exact ⟨rfl, hb1.trans ((hb2.trans ((hb3.trans (hb4.mono hb3.size)).mono hb2.size)).mono hb1.size)⟩

theorem utfReads_any (l : List UInt8) (A : Option Addr) (n c : Nat) (a : Int) (w : World) (hlen : l.length = n) (hnc : n ≤ c) (hcap : c ≤ 9223372036854775807) (hs : Sees w A (vB l)) :
    Calls Try.prog 7 #[.slice A n c, .int .i64 a] w fun e w' => e = .returned (.bool true) ∧ Below w.heap.size w w' := by
  by_cases h : 300 < n
  · exact utfReads_far A n c a w h
  by_cases ho : a < 0 ∨ (n : Int) ≤ a
  · exact utfReads_out l A n c a w hlen hnc hcap (by omega) hs ho
  · obtain ⟨j, rfl⟩ : ∃ j : Nat, a = j := ⟨a.toNat, by omega⟩
    exact utfReads_in l A n c j w hlen hnc hcap (by omega) hs (by omega)
end Go.Proofs.Ytfppkjogdahnbaa
