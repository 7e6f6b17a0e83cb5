/- Which parts of two events are not the same, by package diff. -/
import Derived.Test.YtoiplpmjocemfaaEvu
namespace Go.Proofs.Ytoiplpmjocemfaa
open Go.ChangeShapes Go.WideShapes Go.ChangeAt Go.RowKit
set_option linter.unusedVariables false
set_option maxRecDepth 100000

theorem ev_block (W w' : World) (B : Nat) (v0 v1 v2 v3 v4 : Value) (t : TypeId) (hB : W.heap.size = B) (h : Below (B + 1) (W.alloc (.cells #[v0, v1, v2, v3, v4] t)) w') :
    w'.cell? ⟨B, 0, none⟩ = some v0 ∧ w'.cell? ⟨B, 1, none⟩ = some v1 ∧ w'.cell? ⟨B, 2, none⟩ = some v2 ∧ w'.cell? ⟨B, 3, none⟩ = some v3 ∧ w'.cell? ⟨B, 4, none⟩ = some v4 := by
  subst hB
  exact ⟨(h.cell (by simp)).trans (by simp [World.cell?_alloc_new]), (h.cell (by simp)).trans (by simp [World.cell?_alloc_new]), (h.cell (by simp)).trans (by simp [World.cell?_alloc_new]), (h.cell (by simp)).trans (by simp [World.cell?_alloc_new]), (h.cell (by simp)).trans (by simp [World.cell?_alloc_new])⟩
theorem eqlInt (a b : Int) (w : World) : (binOp .eql 3 (.int .i64 a) (.int .i64 b)).run Try.prog w = .ok (.bool (decide (a = b))) w := by
  by_cases h : a = b <;> simp [go_sem, h]
def sum4 (b0 b1 b2 b3 : Bool) : Nat → Int
  | 0 => 0
  | 1 => bitE b0 1
  | 2 => bitE b0 1 + bitE b1 2
  | 3 => bitE b0 1 + bitE b1 2 + bitE b2 4
  | _ => bitE b0 1 + bitE b1 2 + bitE b2 4 + bitE b3 8
set_option maxHeartbeats 8000000 in
theorem parts_any (x y : Ev) (w : World) (hx : EvOk w x) (hy : EvOk w y) :
    Calls Try.prog 53 #[evW x, evW y] w fun e w' => e = .returned (.int .i64 (partsE x y)) ∧ Below w.heap.size w w' := by
  have HS := Lib.hid (fun (w' : World) (hb : Below w.heap.size w w') => sameRowA_any x.at_ y.at_ x.A y.A x.at_.length y.at_.length x.c y.c w' rfl rfl (Nat.le_trans hx.nc hx.cm) (Nat.le_trans hy.nc hy.cm) (hx.at_.below hb) (hy.at_.below hb))
  obtain ⟨n, hn⟩ : ∃ n, x.at_.length = n := ⟨_, rfl⟩
  obtain ⟨m, hm⟩ : ∃ m, y.at_.length = m := ⟨_, rfl⟩
  unfold partsE nE
  rw [hn, hm] at HS
  unfold evW
  rw [hn, hm]
  obtain ⟨b0, h0⟩ : ∃ b0, (x.kind == y.kind) = b0 := ⟨_, rfl⟩
  obtain ⟨b1, h1⟩ : ∃ b1, (sE x.sp y.sp && sE x.lo y.lo) = b1 := ⟨_, rfl⟩
  obtain ⟨b2, h2⟩ : ∃ b2, asE x.at_ y.at_ = b2 := ⟨_, rfl⟩
  obtain ⟨b3, h3⟩ : ∃ b3, (x.tx.toList == y.tx.toList) = b3 := ⟨_, rfl⟩
  have q1 := fun w => eqlName x.sp x.lo y.sp y.lo w
  rw [show decide (x.kind = y.kind) = b0 from h0]
  rw [h1] at q1 ⊢
  rw [h2] at HS ⊢
  rw [show sE x.tx y.tx = b3 by rw [← h3]; unfold sE; rw [Bool.eq_iff_iff]; simp]
  obtain ⟨k, sp, lo, at_, A, c, tx⟩ := x
  obtain ⟨k', sp', lo', at_', A', c', tx'⟩ := y
  simp only at *
  clear hn hm h1 h2 hx hy
  go_enter Try.func53, Try.ntmps53
  go_wp2_with fail
  have hb1 : Below w.heap.size w ((w.alloc (.cells #[.int .i64 k, .string sp, .string lo, .slice A n c, .string tx] 76)).alloc (.cells #[.int .i64 k', .string sp', .string lo', .slice A' m c', .string tx'] 76)) := ((Below.refl _ _).alloc (Nat.le_refl _) _).alloc (by simp) _
  have hc : ∀ w', Below (w.heap.size + 2) ((w.alloc (.cells #[.int .i64 k, .string sp, .string lo, .slice A n c, .string tx] 76)).alloc (.cells #[.int .i64 k', .string sp', .string lo', .slice A' m c', .string tx'] 76)) w' →
    w'.cell? ⟨w.heap.size, 0, none⟩ = some (.int .i64 k) ∧ w'.cell? ⟨w.heap.size, 1, none⟩ = some (.string sp) ∧ w'.cell? ⟨w.heap.size, 2, none⟩ = some (.string lo) ∧ w'.cell? ⟨w.heap.size, 3, none⟩ = some (.slice A n c) ∧ w'.cell? ⟨w.heap.size, 4, none⟩ = some (.string tx) ∧
    w'.cell? ⟨w.heap.size + 1, 0, none⟩ = some (.int .i64 k') ∧ w'.cell? ⟨w.heap.size + 1, 1, none⟩ = some (.string sp') ∧ w'.cell? ⟨w.heap.size + 1, 2, none⟩ = some (.string lo') ∧ w'.cell? ⟨w.heap.size + 1, 3, none⟩ = some (.slice A' m c') ∧ w'.cell? ⟨w.heap.size + 1, 4, none⟩ = some (.string tx') := by
    intro w' h
    have h1 := ev_block w w' w.heap.size _ _ _ _ _ 76 rfl (((Below.refl (w.heap.size + 1) (w.alloc (.cells #[.int .i64 k, .string sp, .string lo, .slice A n c, .string tx] 76))).alloc (by simp) _).trans (h.mono (by omega)))
    have h2 := ev_block (w.alloc (.cells #[.int .i64 k, .string sp, .string lo, .slice A n c, .string tx] 76)) w' (w.heap.size + 1) _ _ _ _ _ 76 (by simp) h
    exact ⟨h1.1, h1.2.1, h1.2.2.1, h1.2.2.2.1, h1.2.2.2.2, h2⟩
  obtain ⟨W1, hW1⟩ : ∃ W1, (w.alloc (.cells #[.int .i64 k, .string sp, .string lo, .slice A n c, .string tx] 76)).alloc (.cells #[.int .i64 k', .string sp', .string lo', .slice A' m c', .string tx'] 76) = W1 := ⟨_, rfl⟩
  have hsz : W1.heap.size = w.heap.size + 2 := by rw [← hW1]; simp
  rw [hW1] at hb1 hc ⊢
  clear hW1
  obtain ⟨p0, p1, p2, p3, p4, r0, r1, r2, r3, r4⟩ := hc W1 (Below.refl _ _)
  have HC := Lib.hid hc
  have HSZ := Lib.hid hsz
  clear hc hsz
  go_cut [28, 29] (fun s28 s29 wx => s28 = .agg #[.bool b0, .bool b1, .bool b2, .bool b3] ∧ s29 = .int .i64 0 ∧ Below w.heap.size w wx)
  case first =>
    go_region_held3 (fun w' => Below (w.heap.size + 2) W1 w' ∧ w'.cell? ⟨w.heap.size, 0, none⟩ = some (.int .i64 k) ∧ w'.cell? ⟨w.heap.size, 1, none⟩ = some (.string sp) ∧ w'.cell? ⟨w.heap.size, 2, none⟩ = some (.string lo) ∧ w'.cell? ⟨w.heap.size, 3, none⟩ = some (.slice A n c) ∧ w'.cell? ⟨w.heap.size, 4, none⟩ = some (.string tx) ∧
    w'.cell? ⟨w.heap.size + 1, 0, none⟩ = some (.int .i64 k') ∧ w'.cell? ⟨w.heap.size + 1, 1, none⟩ = some (.string sp') ∧ w'.cell? ⟨w.heap.size + 1, 2, none⟩ = some (.string lo') ∧ w'.cell? ⟨w.heap.size + 1, 3, none⟩ = some (.slice A' m c') ∧ w'.cell? ⟨w.heap.size + 1, 4, none⟩ = some (.string tx'))
      (first | exact ⟨(Below.refl _ _).drew, HC.out _ (Below.refl _ _).drew⟩ | (rename_i hb5; exact ⟨hb5, HC.out _ hb5⟩))
      (first
        | (go_at_call 77; refine (HS.out _ hb1.drew).mono ?_; rintro e w5 ⟨rfl, hb⟩; have hb5 : Below (w.heap.size + 2) W1 w5 := (Below.refl _ _).drew.trans (hb.mono (Nat.le_of_eq HSZ.out.symm)); clear hb))
    go_wp2_with fail
    go_meet
    exact ⟨rfl, rfl, hb1.trans (hb5.mono (by omega))⟩
  case rest =>
    obtain ⟨rfl, rfl, hwc⟩ := hcut
    clear p0 p1 p2 p3 p4 r0 r1 r2 r3 r4 h0 h3
    clear q1 HS HC HSZ hb1
    have x0 : ∀ (c0 c1 c2 c3 : Bool) (w : World), (Instr.index 123 (.agg #[.bool c0, .bool c1, .bool c2, .bool c3]) (.int .i64 0)).run Try.prog w = .ok (.bool c0) w := fun _ _ _ _ _ => by kernel_rfl
    have x1 : ∀ (c0 c1 c2 c3 : Bool) (w : World), (Instr.index 123 (.agg #[.bool c0, .bool c1, .bool c2, .bool c3]) (.int .i64 1)).run Try.prog w = .ok (.bool c1) w := fun _ _ _ _ _ => by kernel_rfl
    have x2 : ∀ (c0 c1 c2 c3 : Bool) (w : World), (Instr.index 123 (.agg #[.bool c0, .bool c1, .bool c2, .bool c3]) (.int .i64 2)).run Try.prog w = .ok (.bool c2) w := fun _ _ _ _ _ => by kernel_rfl
    have x3 : ∀ (c0 c1 c2 c3 : Bool) (w : World), (Instr.index 123 (.agg #[.bool c0, .bool c1, .bool c2, .bool c3]) (.int .i64 3)).run Try.prog w = .ok (.bool c3) w := fun _ _ _ _ _ => by kernel_rfl
    go_wp2_with fail
    go_loop [5, 29] (fun s i => ∃ (k : Nat) (z : Int), k ≤ 4 ∧ i = .int .i64 k ∧ s = .int .i64 z ∧ Hid (sum4 b0 b1 b2 b3 k = z)) (fun _ i => 4 - (intOf i).toNat)
    case atStart => exact ⟨0, 0, by omega, rfl, rfl, rfl⟩
    case round =>
      obtain ⟨k, z, hk, rfl, rfl, HZ⟩ := hrel
      have hz := HZ.out
      clear HZ
      match k, hk with
      | 0, _ =>
        cases b0
        all_goals
          simp [sum4] at hz
          subst hz
          go_wp2_with fail
          go_round
          case rel => exact ⟨1, _, by omega, rfl, rfl, rfl⟩
          case measure => simp [intOf]
      | 1, _ =>
        cases b0 <;> cases b1
        all_goals
          simp [sum4, bitE] at hz
          subst hz
          go_wp2_with fail
          go_round
          case rel => exact ⟨2, _, by omega, rfl, rfl, rfl⟩
          case measure => simp [intOf]
      | 2, _ =>
        cases b0 <;> cases b1 <;> cases b2
        all_goals
          simp [sum4, bitE] at hz
          subst hz
          go_wp2_with fail
          go_round
          case rel => exact ⟨3, _, by omega, rfl, rfl, rfl⟩
          case measure => simp [intOf]
      | 3, _ =>
        cases b0 <;> cases b1 <;> cases b2 <;> cases b3
        all_goals
          simp [sum4, bitE] at hz
          subst hz
          go_wp2_with fail
          go_round
          case rel => exact ⟨4, _, by omega, rfl, rfl, rfl⟩
          case measure => simp [intOf]
      | 4, _ =>
        have HZ := Lib.hid hz
        clear hz
        go_wp2_with fail
        go_ret
        exact ⟨ret_int HZ.out.symm, hwc⟩
end Go.Proofs.Ytoiplpmjocemfaa
