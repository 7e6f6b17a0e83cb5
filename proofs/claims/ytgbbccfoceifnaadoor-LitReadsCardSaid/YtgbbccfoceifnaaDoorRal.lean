/- The document's own All: what Runes tells is a premise. -/
import Derived.Test.YtgbbccfoceifnaaDoorUtfP
import Derived.Test.YtgbbccfoceifnaaDoorUtfN
import Derived.Test.YtgbbccfoceifnaaDoorChe
namespace Go.Proofs.YtgbbccfoceifnaaDoor
open Go.ChangeShapes Go.WideShapes Go.ChangeAt Go.RowKit
set_option linter.unusedVariables false
set_option maxRecDepth 100000

theorem seesR {w : World} {A : Option Addr} {l : List Int} (h : Sees w A (l.map (Value.int .i64))) {k : Nat} (hk : k < l.length) : ∃ ad, A = some ad ∧ w.cell? (ad.add k) = some (.int .i64 l[k]) := by
  obtain ⟨ad, u, e, hu, hc⟩ := h.at (k := k) (by simpa using hk)
  rw [List.getElem?_map, List.getElem?_eq_getElem hk] at hu
  injection hu with hu
  exact ⟨ad, e, by rw [hc, ← hu]⟩
theorem all_nextR (xs : List Int) (P : Int → Bool) (j : Nat) (hj : j < xs.length) : (xs.take (j + 1)).all P = ((xs.take j).all P && P (xs[j]'hj)) := by
  rw [List.take_succ_eq_append_getElem hj, List.all_append]; simp
theorem all_missR (xs : List Int) (P : Int → Bool) (j : Nat) (hj : j < xs.length) (h : P (xs[j]'hj) = false) : xs.all P = false :=
  List.all_eq_false.2 ⟨xs[j], List.getElem_mem hj, by simp [h]⟩

set_option maxHeartbeats 2000000 in
theorem rallR_good (A : Option Addr) (len cap n : Nat) (xs : List Int) (P : Int → Bool) (W : World) (hn : xs.length = n) (hsmall : n ≤ 17592186044416) (k : Nat)
    (C : ∀ x w1, Calls Tryd.prog 116 #[.int .i64 k, .int .i64 x] w1 fun e w' => e = .returned (.bool (P x)) ∧ w1 = w')
    (RG : ∀ w1, Below W.heap.size W w1 → Calls Tryd.prog 115 #[.slice A len cap] w1 fun e w' => ∃ A' c', e = .returned (.tuple #[.slice A' n c', .int .i64 (-1)]) ∧ Sees w' A' (xs.map (Value.int .i64)) ∧ Below W.heap.size W w') :
    ∀ w1, Below W.heap.size W w1 → Calls Tryd.prog 71 #[.slice A len cap, .int .i64 k] w1 fun e w' => e = .returned (.bool (xs.all P)) ∧ Below W.heap.size W w' := by
  intro w1 hB1
  have HN := Lib.hid hn; have HC := Lib.hid C; have HR := Lib.hid RG
  clear hn C RG
  go_enter Tryd.func71, Tryd.ntmps71
  go_wp2_with (go_at_call 115; refine (HR.out _ (by assumption)).mono ?_; rintro e w2 ⟨A', c', rfl, hs2, hb2⟩)
  go_loopw [7] (fun i wr => ∃ j : Nat, j ≤ n ∧ i = .int .i64 j ∧ (xs.take j).all P = true ∧ Below W.heap.size W wr ∧ Sees wr A' (xs.map (Value.int .i64))) (fun i _ => n - (intOf i).toNat)
  case atStart => exact ⟨0, by omega, rfl, rfl, hb2, hs2⟩
  case round =>
    obtain ⟨j, hj, rfl, hall, hB, hs⟩ := hrel
    have hsW := hB.size
    have HALL := Lib.hid hall
    clear hall hs2
    by_cases hlt : j < n
    · have hjl : j < xs.length := by rw [HN.out]; exact hlt
      obtain ⟨ad, rfl, hc⟩ := seesR hs hjl
      have HT := Lib.hid (all_nextR xs P j hjl)
      have HM := Lib.hid (all_missR xs P j hjl)
      obtain ⟨x, hx⟩ : ∃ x, (xs[j]'hjl) = x := ⟨_, rfl⟩
      rw [hx] at hc HT HM
      have h1 := HC.out x wr
      obtain ⟨q, hq⟩ : ∃ q, P x = q := ⟨_, rfl⟩
      rw [hq] at h1 HT HM
      have H1 := Lib.hid h1
      have HS := Lib.hid hs
      clear h1 hq hx hs hjl
      cases q with
      | true =>
        go_wp2_with (go_at_call 116; refine H1.out.mono ?_; rintro e w3 ⟨rfl, rfl⟩)
        go_roundw
        case rel => exact ⟨j + 1, by omega, by go_num, by rw [HT.out, HALL.out]; rfl, hB, HS.out⟩
        case measure => simp [intOf]; omega
      | false =>
        go_wp2_with (go_at_call 116; refine H1.out.mono ?_; rintro e w3 ⟨rfl, rfl⟩)
        go_ret
        exact ⟨ret_bool (by rw [HM.out (by trivial)]), hB⟩
    · obtain rfl : j = n := by omega
      have e := HALL.out
      rw [List.take_of_length_le (by rw [HN.out]; omega)] at e
      have HE := Lib.hid e
      clear e hs
      go_wp2_with fail
      go_ret
      exact ⟨ret_bool (by rw [HE.out]), hB⟩

theorem rallR_bad (A : Option Addr) (len cap : Nat) (W : World) (k m : Nat)
    (RB : ∀ w1, Below W.heap.size W w1 → Calls Tryd.prog 115 #[.slice A len cap] w1 fun e w' => e = .returned (.tuple #[.slice none 0 0, .int .i64 m]) ∧ Below W.heap.size W w') :
    ∀ w1, Below W.heap.size W w1 → Calls Tryd.prog 71 #[.slice A len cap, .int .i64 k] w1 fun e w' => e = .returned (.bool false) ∧ Below W.heap.size W w' := by
  intro w1 hB1
  have HR := Lib.hid RB
  clear RB
  go_enter Tryd.func71, Tryd.ntmps71
  go_wp2_with (go_at_call 115; refine (HR.out _ (by assumption)).mono ?_; rintro e w2 ⟨rfl, hb2⟩)
  go_ret
  exact ⟨rfl, hb2⟩

theorem ris3_any (r : Int) (w : World) :
    Calls Tryd.prog 116 #[.int .i64 3, .int .i64 r] w fun e w' => e = .returned (.bool (hasT followT r || hasT startT r)) ∧ w = w' := rcls_any 3 (by omega) r w
end Go.Proofs.YtgbbccfoceifnaaDoor
