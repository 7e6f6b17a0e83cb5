/- How much events hold, and whether it is more than is asked. -/
import Derived.Test.YtoiplpmjocemfaaEvy
import Derived.BigQuiet
namespace Go.Proofs.Ytoiplpmjocemfaa
open Go.ChangeShapes Go.WideShapes Go.ChangeAt Go.RowKit
set_option linter.unusedVariables false
set_option maxRecDepth 100000

/-- Some number is told; some answer is told. -/
def SomeInt (w : World) (e : Ending) (w' : World) : Prop := ∃ z : Int, e = .returned (.int .i64 z) ∧ Below w.heap.size w w'
def SomeBool (w : World) (e : Ending) (w' : World) : Prop := ∃ b : Bool, e = .returned (.bool b) ∧ Below w.heap.size w w'
def BRel (W1 : World) (n : Nat) (s i : Value) (wr : World) : Prop := ∃ (j nq : Nat) (z : Int), j ≤ n ∧ i = .int .i64 j ∧ s = .int .i64 z ∧ wr = W1.drewN nq

set_option maxHeartbeats 4000000 in
theorem bytes_any (x : Ev) (w : World) (hx : EvOk w x) : Calls Try.prog 69 #[evW x] w (SomeInt w) := by
  obtain ⟨k, sp, lo, at_, A, c, tx⟩ := x
  obtain ⟨hx1, hx2, hx3, _⟩ := hx
  unfold evW
  simp only at *
  obtain ⟨n, hn⟩ : ∃ n, at_.length = n := ⟨_, rfl⟩
  rw [hn] at hx2 ⊢
  have HS := Lib.hid hx1
  have HN := Lib.hid hn
  have hb1 : Below w.heap.size w (w.alloc (.cells #[.int .i64 k, .string sp, .string lo, .slice A n c, .string tx] 76)) := (Below.refl _ _).alloc (Nat.le_refl _) _
  have hc := (ev_block w _ w.heap.size (.int .i64 k) (.string sp) (.string lo) (.slice A n c) (.string tx) 76 rfl (Below.refl _ _)).2.2.2.1
  clear hx1 hn
  go_enter Try.func69, Try.ntmps69
  go_wp2_with fail
  obtain ⟨W1, hW1⟩ : ∃ W1, w.alloc (.cells #[.int .i64 k, .string sp, .string lo, .slice A n c, .string tx] 76) = W1 := ⟨_, rfl⟩
  rw [hW1] at hb1 hc ⊢
  clear hW1
  go_loopw [3, 4] (fun s i wr => BRel W1 n s i wr) (fun _ i _ => n - (intOf i).toNat)
  case atStart => exact ⟨0, 0, _, by omega, rfl, rfl, rfl⟩
  case round =>
    obtain ⟨j, nq, z, hj, rfl, rfl, rfl⟩ := hrel
    by_cases hlt : j < n
    · obtain ⟨a, ha⟩ : ∃ a, at_[j]? = some a := ⟨_, List.getElem?_eq_getElem (by rw [HN.out]; exact hlt)⟩
      obtain ⟨u, rfl, x0, x1, x2⟩ := (HS.out.below hb1).att ha
      have i0 : (0 : Int) ≤ (j : Int) := by omega
      have i1 : (j : Int) < (n : Int) := by omega
      clear ha
      go_wp2_with fail
      go_quiet (fail)
      go_wp2_with fail
      go_roundw
      case rel => exact ⟨j + 1, _, _, by omega, by go_num, rfl, rfl⟩
      case measure => simp [intOf]; omega
    · go_wp2_with fail
      go_ret
      exact ⟨_, rfl, below_dr hb1 _⟩
def GRel (w : World) (n : Nat) (s i : Value) (wr : World) : Prop := ∃ (j : Nat) (z : Int), j ≤ n ∧ j ≤ 200 ∧ i = .int .i64 j ∧ s = .int .i64 z ∧ Below w.heap.size w wr
set_option maxHeartbeats 4000000 in
theorem great26_any (l : List Ev) (A : Option Addr) (n c : Nat) (w : World) (hl : l.length = n) (hn9 : n ≤ 9223372036854775807) (hA : EvsOk w A l) :
    Calls Try.prog 41 #[.slice A n c] w (SomeBool w) := by
  have HL := Lib.hid hl
  have HA := Lib.hid hA
  clear hl hA
  go_enter Try.func41, Try.ntmps41
  go_wp2_with fail
  go_loopw [3, 4] (fun s i wr => GRel w n s i wr) (fun _ i _ => n - (intOf i).toNat)
  case atStart => exact ⟨0, _, by omega, by omega, rfl, rfl, Below.refl _ _⟩
  case round =>
    obtain ⟨j, z, hj, hj2, rfl, rfl, hbw⟩ := hrel
    have i0 : (0 : Int) ≤ (j : Int) := by omega
    by_cases hlt : j < n ∧ j < 200
    · obtain ⟨hlt, hlt2⟩ := hlt
      obtain ⟨a, ha⟩ : ∃ a, l[j]? = some a := ⟨_, List.getElem?_eq_getElem (by rw [HL.out]; exact hlt)⟩
      obtain ⟨x, rfl, x0, x1, x2, x3, x4⟩ := (HA.out.below hbw).sees.ev ha
      have KS := Lib.hid (fun (w' : World) (hb'' : Below wr.heap.size wr w') => bytes_any a w' (((HA.out.below hbw).get ha).below hb''))
      have i1 : (j : Int) < (n : Int) := by omega
      have HC := Lib.hid (show wr.cell? (x.add (j * 5)) = some (.int .i64 a.kind) ∧ wr.cell? ⟨(x.add (j * 5)).block, (x.add (j * 5)).off + 1, none⟩ = some (.string a.sp) ∧ wr.cell? ⟨(x.add (j * 5)).block, (x.add (j * 5)).off + 2, none⟩ = some (.string a.lo) ∧ wr.cell? ⟨(x.add (j * 5)).block, (x.add (j * 5)).off + 3, none⟩ = some (.slice a.A a.at_.length a.c) ∧ wr.cell? ⟨(x.add (j * 5)).block, (x.add (j * 5)).off + 4, none⟩ = some (.string a.tx) from ⟨x0, x1, x2, x3, x4⟩)
      clear ha
      go_wp2_with fail
      go_region_held3 (fun w' => Below wr.heap.size wr w' ∧ w'.cell? (x.add (j * 5)) = some (.int .i64 a.kind) ∧ w'.cell? ⟨(x.add (j * 5)).block, (x.add (j * 5)).off + 1, none⟩ = some (.string a.sp) ∧ w'.cell? ⟨(x.add (j * 5)).block, (x.add (j * 5)).off + 2, none⟩ = some (.string a.lo) ∧ w'.cell? ⟨(x.add (j * 5)).block, (x.add (j * 5)).off + 3, none⟩ = some (.slice a.A a.at_.length a.c) ∧ w'.cell? ⟨(x.add (j * 5)).block, (x.add (j * 5)).off + 4, none⟩ = some (.string a.tx))
        (first | exact ⟨(Below.refl _ _).drew, HC.out⟩ | (rename_i hb5; exact ⟨hb5, cell_later hb5 HC.out.1, cell_later hb5 HC.out.2.1, cell_later hb5 HC.out.2.2.1, cell_later hb5 HC.out.2.2.2.1, cell_later hb5 HC.out.2.2.2.2⟩))
        (first
          | (go_at_call 69; refine (KS.out _ (Below.refl _ _).drew).mono ?_; rintro e w5 ⟨z5, rfl, hb⟩; have hb5 : Below wr.heap.size wr w5 := (Below.refl _ _).drew.trans hb; clear hb))
      go_wp2_with fail
      go_roundw
      case rel => exact ⟨j + 1, _, by omega, by omega, by go_num, rfl, hbw.trans (hb5.mono hbw.size)⟩
      case measure => simp [intOf]; omega
    · by_cases hn : j < n
      · have h2 : ¬ j < 200 := by omega
        have d2 : decide ((j : Int) < 200) = false := by simp; omega
        go_wp2_with fail
        all_goals
          go_ret
          exact ⟨_, rfl, hbw⟩
      · go_wp2_with fail
        all_goals
          go_ret
          exact ⟨_, rfl, hbw⟩
end Go.Proofs.Ytoiplpmjocemfaa
