/- Events held against each other by the document: one by one, and rows of them. -/
import Derived.Test.YtoiplpmjocemfaaEvx
namespace Go.Proofs.Ytoiplpmjocemfaa
open Go.ChangeShapes Go.WideShapes Go.ChangeAt Go.RowKit
set_option linter.unusedVariables false
set_option maxRecDepth 100000

theorem neqStr (a b : ByteArray) (w : World) : (binOp .neq 9 (.string a) (.string b)).run Try.prog w = .ok (.bool (!sE a b)) w := by
  unfold sE
  by_cases h : a.toList = b.toList <;> simp [go_sem, h]
theorem neqName (a b c d : ByteArray) (w : World) : (binOp .neq 73 (.agg #[.string a, .string b]) (.agg #[.string c, .string d])).run Try.prog w = .ok (.bool (!(sE a c && sE b d))) w := by
  unfold sE
  by_cases h1 : a.toList = c.toList <;> by_cases h2 : b.toList = d.toList <;> simp [go_sem, h1, h2]
theorem neqAtt (a b c a' b' c' : ByteArray) (w : World) : (binOp .neq 113 (.agg #[.string a, .string b, .string c]) (.agg #[.string a', .string b', .string c'])).run Try.prog w = .ok (.bool (!(sE a a' && sE b b' && sE c c'))) w := by
  unfold sE
  by_cases h1 : a.toList = a'.toList <;> by_cases h2 : b.toList = b'.toList <;> by_cases h3 : c.toList = c'.toList <;> simp [go_sem, h1, h2, h3]
theorem eqlAtt (a b c a' b' c' : ByteArray) (w : World) : (binOp .eql 113 (.agg #[.string a, .string b, .string c]) (.agg #[.string a', .string b', .string c'])).run Try.prog w = .ok (.bool (sE a a' && sE b b' && sE c c')) w := by
  unfold sE
  by_cases h1 : a.toList = a'.toList <;> by_cases h2 : b.toList = b'.toList <;> by_cases h3 : c.toList = c'.toList <;> simp [go_sem, h1, h2, h3]

set_option maxHeartbeats 4000000 in
theorem one_any (x y : Ev) (w : World) (hx : EvOk w x) (hy : EvOk w y) :
    Calls Try.prog 73 #[evW x, evW y] w fun e w' => e = .returned (.bool (evE x y)) ∧ Below w.heap.size w w' := by
  obtain ⟨k, sp, lo, at_, A, c, tx⟩ := x
  obtain ⟨k', sp', lo', at_', A', c', tx'⟩ := y
  obtain ⟨hx1, hx2, hx3, _⟩ := hx
  obtain ⟨hy1, hy2, hy3, _⟩ := hy
  unfold evW evE nE
  simp only at *
  have q1 := fun w => neqName sp lo sp' lo' w
  obtain ⟨b1, h1⟩ : ∃ b1, (sE sp sp' && sE lo lo') = b1 := ⟨_, rfl⟩
  obtain ⟨b3, h3⟩ : ∃ b3, sE tx tx' = b3 := ⟨_, rfl⟩
  rw [h1] at q1 ⊢
  rw [h3]
  have hb1 : Below w.heap.size w ((w.alloc (.cells #[.int .i64 k, .string sp, .string lo, .slice A at_.length c, .string tx] 76)).alloc (.cells #[.int .i64 k', .string sp', .string lo', .slice A' at_'.length c', .string tx'] 76)) := ((Below.refl _ _).alloc (Nat.le_refl _) _).alloc (by simp) _
  by_cases h0 : k = k'
  rotate_left
  · rw [decide_eq_false h0]
    have t0 : (k != k') = true := by simpa using h0
    clear hx1 hy1 h0
    go_enter Try.func73, Try.ntmps73
    go_wp2_with fail
    go_ret
    exact ⟨rfl, hb1⟩
  rw [decide_eq_true h0]
  have t0 : (k != k') = false := by simpa using h0
  clear h0
  cases b1 with
  | false =>
    clear hx1 hy1
    go_enter Try.func73, Try.ntmps73
    go_wp2_with fail
    go_ret
    exact ⟨rfl, hb1⟩
  | true =>
  cases b3 with
  | false =>
    rw [Bool.and_false]
    have t3 : ¬ tx.toList = tx'.toList := fun h => by rw [sE_true.2 h] at h3; cases h3
    clear hx1 hy1
    go_enter Try.func73, Try.ntmps73
    go_wp2_with fail
    go_ret
    exact ⟨rfl, hb1⟩
  | true =>
  have t3 := sE_true.1 h3
  obtain ⟨n, hn⟩ : ∃ n, at_.length = n := ⟨_, rfl⟩
  obtain ⟨m, hm⟩ : ∃ m, at_'.length = m := ⟨_, rfl⟩
  rw [Bool.and_true, Bool.true_and, Bool.true_and]
  rw [hn, hm] at hb1 ⊢
  rw [hn] at hx2
  rw [hm] at hy2
  by_cases hnm : n = m
  rotate_left
  · have HE := Lib.hid (asE_ne (l := at_) (m := at_') (by omega))
    have t2 : ((n : Int) != (m : Int)) = true := by simp; omega
    clear hx1 hy1 hn hm hnm
    go_enter Try.func73, Try.ntmps73
    go_wp2_with fail
    go_ret
    exact ⟨ret_bool HE.out.symm, hb1⟩
  subst hnm
  have hl : at_.length = at_'.length := by omega
  have hc : ∀ w', Below (w.heap.size + 2) ((w.alloc (.cells #[.int .i64 k, .string sp, .string lo, .slice A n c, .string tx] 76)).alloc (.cells #[.int .i64 k', .string sp', .string lo', .slice A' n c', .string tx'] 76)) w' →
    w'.cell? ⟨w.heap.size, 3, none⟩ = some (.slice A n c) ∧ w'.cell? ⟨w.heap.size + 1, 3, none⟩ = some (.slice A' n c') := by
    intro w' h
    have h1 := ev_block w w' w.heap.size _ _ _ _ _ 76 rfl (((Below.refl (w.heap.size + 1) (w.alloc (.cells #[.int .i64 k, .string sp, .string lo, .slice A n c, .string tx] 76))).alloc (by simp) _).trans (h.mono (by omega)))
    have h2 := ev_block (w.alloc (.cells #[.int .i64 k, .string sp, .string lo, .slice A n c, .string tx] 76)) w' (w.heap.size + 1) _ _ _ _ _ 76 (by simp) h
    exact ⟨h1.2.2.2.1, h2.2.2.2.1⟩
  have HC := Lib.hid hc
  have HS := Lib.hid hx1
  have HS' := Lib.hid hy1
  have HN := Lib.hid hn
  have HL := Lib.hid hl
  clear hx1 hy1 hn hm hc hl
  go_enter Try.func73, Try.ntmps73
  go_wp2_with fail
  obtain ⟨W1, hW1⟩ : ∃ W1, (w.alloc (.cells #[.int .i64 k, .string sp, .string lo, .slice A n c, .string tx] 76)).alloc (.cells #[.int .i64 k', .string sp', .string lo', .slice A' n c', .string tx'] 76) = W1 := ⟨_, rfl⟩
  have hsz : w.heap.size + 2 = W1.heap.size := by rw [← hW1]; simp
  rw [hW1] at hb1 HC ⊢
  clear hW1 q1 h3 h1 t3
  have HSZ := Lib.hid hsz
  clear hsz
  go_loopw [5] (fun i wr => ∃ (j nq : Nat), j ≤ n ∧ i = .int .i64 j ∧ Hid (asE (at_.drop j) (at_'.drop j) = asE at_ at_') ∧ wr = W1.drewN nq) (fun i _ => n - (intOf i).toNat)
  case atStart => exact ⟨0, 0, by omega, rfl, rfl, rfl⟩
  case round =>
    obtain ⟨j, nq, hj, rfl, hjE, rfl⟩ := hrel
    obtain ⟨p0, p1⟩ := HC.out W1 (Below.refl _ _)
    by_cases hlt : j < n
    · obtain ⟨a, ha⟩ : ∃ a, at_[j]? = some a := ⟨_, List.getElem?_eq_getElem (by rw [HN.out]; exact hlt)⟩
      obtain ⟨b, hb⟩ : ∃ b, at_'[j]? = some b := ⟨_, List.getElem?_eq_getElem (by rw [← HL.out, HN.out]; exact hlt)⟩
      obtain ⟨u, rfl, x0, x1, x2⟩ := (HS.out.below hb1).att ha
      obtain ⟨v, rfl, y0, y1, y2⟩ := (HS'.out.below hb1).att hb
      have HT := asE_step HL.out ha hb
      have q2 := fun w => neqAtt a.1 a.2.1 a.2.2 b.1 b.2.1 b.2.2 w
      obtain ⟨ab, hab⟩ : ∃ ab, aE a b = ab := ⟨_, rfl⟩
      rw [hab] at HT
      have q2' : ∀ w, (binOp .neq 113 (.agg #[.string a.1, .string a.2.1, .string a.2.2]) (.agg #[.string b.1, .string b.2.1, .string b.2.2])).run Try.prog w = .ok (.bool (!ab)) w := fun w => by rw [q2, ← hab]; rfl
      clear q2 hab
      have i0 : (0 : Int) ≤ (j : Int) := by omega
      have i1 : (j : Int) < (n : Int) := by omega
      clear ha hb
      cases ab with
      | true =>
        have HJ := Lib.hid (show asE (at_.drop (j + 1)) (at_'.drop (j + 1)) = asE at_ at_' by rw [← hjE.out, HT, Bool.true_and])
        clear HT hjE
        go_wp2_with fail
        go_quiet (fail)
        go_wp2_with fail
        go_roundw
        case rel => exact ⟨j + 1, _, by omega, by go_num, HJ, rfl⟩
        case measure => simp [intOf]; omega
      | false =>
        have HJ := Lib.hid (show false = asE at_ at_' by rw [← hjE.out, HT, Bool.false_and])
        clear HT hjE
        go_wp2_with fail
        go_quiet (fail)
        go_wp2_with fail
        go_ret
        exact ⟨ret_bool HJ.out, below_dr (below_dr hb1 _) _⟩
    · have HJ := Lib.hid (show true = asE at_ at_' by rw [← hjE.out, asE_end HL.out (by rw [HN.out]; omega)])
      clear hjE
      go_wp2_with fail
      go_ret
      exact ⟨ret_bool HJ.out, below_dr hb1 _⟩
end Go.Proofs.Ytoiplpmjocemfaa
