/- Which parts of two events are not the same, by the document; the first place at which two rows are not. -/
import Derived.Test.YtoiplpmjocemfaaEvz
namespace Go.Proofs.Ytoiplpmjocemfaa
open Go.ChangeShapes Go.WideShapes Go.ChangeAt Go.RowKit
set_option linter.unusedVariables false
set_option maxRecDepth 100000

set_option maxHeartbeats 8000000 in
theorem rparts_any (x y : Ev) (w : World) (hx : EvOk w x) (hy : EvOk w y) :
    Calls Try.prog 54 #[evW x, evW y] w fun e w' => e = .returned (.int .i64 (partsE x y)) ∧ Below w.heap.size w w' := by
  obtain ⟨k, sp, lo, at_, A, c, tx⟩ := x
  obtain ⟨k', sp', lo', at_', A', c', tx'⟩ := y
  obtain ⟨hx1, hx2, hx3, _⟩ := hx
  obtain ⟨hy1, hy2, hy3, _⟩ := hy
  unfold evW partsE nE
  simp only at *
  have q1 := fun w => neqName sp lo sp' lo' w
  obtain ⟨b0, h0⟩ : ∃ b0, (k == k') = b0 := ⟨_, rfl⟩
  have h0' : (k != k') = !b0 := by rw [← h0]; rfl
  obtain ⟨b1, h1⟩ : ∃ b1, (sE sp sp' && sE lo lo') = b1 := ⟨_, rfl⟩
  obtain ⟨b2, h2⟩ : ∃ b2, asE at_ at_' = b2 := ⟨_, rfl⟩
  obtain ⟨b3, h3⟩ : ∃ b3, sE tx tx' = b3 := ⟨_, rfl⟩
  have t3 : (tx.toList == tx'.toList) = b3 := by rw [← h3]; unfold sE; rw [Bool.eq_iff_iff]; simp
  rw [h1] at q1 ⊢
  rw [h3]
  rw [show decide (k = k') = b0 from h0, h2]
  obtain ⟨n, hn⟩ : ∃ n, at_.length = n := ⟨_, rfl⟩
  obtain ⟨m, hm⟩ : ∃ m, at_'.length = m := ⟨_, rfl⟩
  rw [hn] at hx2 ⊢
  rw [hm] at hy2 ⊢
  have hb1 : Below w.heap.size w ((w.alloc (.cells #[.int .i64 k, .string sp, .string lo, .slice A n c, .string tx] 76)).alloc (.cells #[.int .i64 k', .string sp', .string lo', .slice A' m c', .string tx'] 76)) := ((Below.refl _ _).alloc (Nat.le_refl _) _).alloc (by simp) _
  have hc : ∀ w', Below (w.heap.size + 2) ((w.alloc (.cells #[.int .i64 k, .string sp, .string lo, .slice A n c, .string tx] 76)).alloc (.cells #[.int .i64 k', .string sp', .string lo', .slice A' m c', .string tx'] 76)) w' →
    (w'.cell? ⟨w.heap.size, 3, none⟩ = some (.slice A n c) ∧ w'.cell? ⟨w.heap.size + 1, 3, none⟩ = some (.slice A' m c')) ∧ w'.cell? ⟨w.heap.size, 4, none⟩ = some (.string tx) ∧ w'.cell? ⟨w.heap.size + 1, 4, none⟩ = some (.string tx') := by
    intro w' h
    have h1 := ev_block w w' w.heap.size _ _ _ _ _ 76 rfl (((Below.refl (w.heap.size + 1) (w.alloc (.cells #[.int .i64 k, .string sp, .string lo, .slice A n c, .string tx] 76))).alloc (by simp) _).trans (h.mono (by omega)))
    have h2 := ev_block (w.alloc (.cells #[.int .i64 k, .string sp, .string lo, .slice A n c, .string tx] 76)) w' (w.heap.size + 1) _ _ _ _ _ 76 (by simp) h
    exact ⟨⟨h1.2.2.2.1, h2.2.2.2.1⟩, h1.2.2.2.2, h2.2.2.2.2⟩
  have HC := Lib.hid hc
  have HS := Lib.hid hx1
  have HS' := Lib.hid hy1
  have HN := Lib.hid hn
  have HM := Lib.hid hm
  have H2 := Lib.hid h2
  clear hx1 hy1 hn hm hc h2 h1 h3
  by_cases hnm : n = m
  rotate_left
  · have t2 : ((n : Int) == (m : Int)) = false := by simp; omega
    have hb2 : b2 = false := by rw [← H2.out]; exact asE_ne (by rw [HN.out, HM.out]; exact hnm)
    subst hb2
    clear hnm H2 HN HM HS HS'
    cases b0
    all_goals
      cases b1
      all_goals
        cases b3
        all_goals
          go_enter Try.func54, Try.ntmps54
          go_wp2_with fail
          obtain ⟨W1, hW1⟩ : ∃ W1, (w.alloc (.cells #[.int .i64 k, .string sp, .string lo, .slice A n c, .string tx] 76)).alloc (.cells #[.int .i64 k', .string sp', .string lo', .slice A' m c', .string tx'] 76) = W1 := ⟨_, rfl⟩
          rw [hW1] at hb1 HC ⊢
          clear hW1
          obtain ⟨⟨p0, p1⟩, p2, p3⟩ := HC.out W1 (Below.refl _ _)
          go_loopw [6, 7] (fun s i wr => s = .bool false ∧ i = .int .i64 0 ∧ wr = W1) (fun _ _ _ => 0)
          case atStart => exact ⟨rfl, rfl, rfl⟩
          case round =>
            obtain ⟨rfl, rfl, rfl⟩ := hrel
            go_wp2_with fail
            go_ret
            exact ⟨rfl, hb1⟩
  subst hnm
  have HL := Lib.hid (show at_.length = at_'.length by rw [HN.out, HM.out])
  clear HM
  cases b0
  all_goals
    cases b1
    all_goals
      cases b3
      all_goals
        go_enter Try.func54, Try.ntmps54
        go_wp2_with fail
        obtain ⟨W1, hW1⟩ : ∃ W1, (w.alloc (.cells #[.int .i64 k, .string sp, .string lo, .slice A n c, .string tx] 76)).alloc (.cells #[.int .i64 k', .string sp', .string lo', .slice A' n c', .string tx'] 76) = W1 := ⟨_, rfl⟩
        rw [hW1] at hb1 HC ⊢
        clear hW1
        obtain ⟨⟨p0, p1⟩, p2, p3⟩ := HC.out W1 (Below.refl _ _)
        go_loopw [6, 7] (fun s i wr => ∃ (j nq : Nat) (sb : Bool), j ≤ n ∧ i = .int .i64 j ∧ s = .bool sb ∧ Hid ((sb && asE (at_.drop j) (at_'.drop j)) = b2) ∧ wr = W1.drewN nq) (fun s i _ => (match s with | .bool true => n + 1 - (intOf i).toNat | _ => 0))
        case atStart => exact ⟨0, 0, true, by omega, rfl, rfl, H2, rfl⟩
        case round =>
          obtain ⟨j, nq, sb, hj, rfl, rfl, hjE, rfl⟩ := hrel
          cases sb with
          | false =>
            have hb2 : b2 = false := by rw [← hjE.out]; rfl
            clear hjE H2
            subst hb2
            go_wp2_with fail
            go_ret
            exact ⟨rfl, below_dr hb1 _⟩
          | true =>
          by_cases hlt : j < n
          · obtain ⟨a, ha⟩ : ∃ a, at_[j]? = some a := ⟨_, List.getElem?_eq_getElem (by rw [HN.out]; exact hlt)⟩
            obtain ⟨b, hb⟩ : ∃ b, at_'[j]? = some b := ⟨_, List.getElem?_eq_getElem (by rw [← HL.out, HN.out]; exact hlt)⟩
            obtain ⟨u, rfl, x0, x1, x2⟩ := (HS.out.below hb1).att ha
            obtain ⟨v, rfl, y0, y1, y2⟩ := (HS'.out.below hb1).att hb
            have HT := asE_step HL.out ha hb
            have q2 := fun w => eqlAtt a.1 a.2.1 a.2.2 b.1 b.2.1 b.2.2 w
            obtain ⟨ab, hab⟩ : ∃ ab, aE a b = ab := ⟨_, rfl⟩
            rw [hab] at HT
            have q2' : ∀ w, (binOp .eql 113 (.agg #[.string a.1, .string a.2.1, .string a.2.2]) (.agg #[.string b.1, .string b.2.1, .string b.2.2])).run Try.prog w = .ok (.bool ab) w := fun w => by rw [q2, ← hab]; rfl
            have HJ := Lib.hid (show (ab && asE (at_.drop (j + 1)) (at_'.drop (j + 1))) = b2 by rw [← hjE.out, HT]; rfl)
            have i0 : (0 : Int) ≤ (j : Int) := by omega
            have i1 : (j : Int) < (n : Int) := by omega
            clear ha hb q2 hab HT hjE
            go_wp2_with fail
            go_quiet (fail)
            go_wp2_with fail
            go_roundw
            case rel => exact ⟨j + 1, _, ab, by omega, by go_num, rfl, HJ, rfl⟩
            case measure => cases ab <;> (simp [intOf] <;> omega)
          · have hb2 : b2 = true := by rw [← hjE.out, asE_end HL.out (by rw [HN.out]; omega)]; rfl
            clear hjE H2
            subst hb2
            go_wp2_with fail
            go_ret
            exact ⟨rfl, below_dr hb1 _⟩
end Go.Proofs.Ytoiplpmjocemfaa
