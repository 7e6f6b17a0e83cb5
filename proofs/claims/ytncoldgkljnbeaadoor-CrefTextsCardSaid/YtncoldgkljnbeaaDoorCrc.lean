/- References: which names are always known, by the program. -/
import Derived.Test.YtncoldgkljnbeaaDoorCrb
namespace Go.Proofs.YtncoldgkljnbeaaDoor
open Go.ChangeShapes Go.WideShapes Go.ChangeAt Go.RowKit
set_option linter.unusedVariables false
set_option maxRecDepth 100000

def kn : List (List UInt8 × Int) := [([108, 116], 60), ([103, 116], 62), ([97, 109, 112], 38), ([97, 112, 111, 115], 39), ([113, 117, 111, 116], 34)]
def knRow : Array Value := (kn.flatMap fun p => [strV p.1, .int .i64 p.2]).toArray
/-- The names lie as they were laid. -/
def KnAt (w : World) : Prop := ∃ t fr, w.heap[0]? = some (.cells knRow t fr)
theorem KnAt.below {w w' : World} (h : KnAt w) (hb : Below w.heap.size w w') : KnAt w' := by
  obtain ⟨t, fr, e⟩ := h
  exact ⟨t, fr, (hb.block _ (Array.getElem?_eq_some_iff.1 e).1).trans e⟩
theorem idx_kn (k : Nat) (h : k < 5) : ∀ w : World, (Instr.index 99 (.agg knRow) (.int .i64 (k : Int))).run Tryd.prog w = .ok (.agg #[strV (kn[k]'h).1, .int .i64 (kn[k]'h).2]) w := by
  match k, h with
  | 0, _ => exact fun _ => by kernel_rfl
  | 1, _ => exact fun _ => by kernel_rfl
  | 2, _ => exact fun _ => by kernel_rfl
  | 3, _ => exact fun _ => by kernel_rfl
  | 4, _ => exact fun _ => by kernel_rfl
theorem kn_hit (k : Nat) (h : k < 5) : knownN (kn[k]'h).1 = (kn[k]'h).2 := by
  match k, h with
  | 0, _ => exact (show knownN [108, 116] = 60 by kernel_rfl)
  | 1, _ => exact (show knownN [103, 116] = 62 by kernel_rfl)
  | 2, _ => exact (show knownN [97, 109, 112] = 38 by kernel_rfl)
  | 3, _ => exact (show knownN [97, 112, 111, 115] = 39 by kernel_rfl)
  | 4, _ => exact (show knownN [113, 117, 111, 116] = 34 by kernel_rfl)
theorem kn_pos (k : Nat) (h : k < 5) : (0 : Int) < (kn[k]'h).2 := by
  match k, h with
  | 0, _ => exact (show (0 : Int) < 60 by omega)
  | 1, _ => exact (show (0 : Int) < 62 by omega)
  | 2, _ => exact (show (0 : Int) < 38 by omega)
  | 3, _ => exact (show (0 : Int) < 39 by omega)
  | 4, _ => exact (show (0 : Int) < 34 by omega)
theorem kn_none (l : List UInt8) (h : ∀ j (hj : j < 5), (kn[j]'hj).1 ≠ l) : knownN l = 0 := by
  unfold knownN
  have h0 := h 0 (by omega); have h1 := h 1 (by omega); have h2 := h 2 (by omega); have h3 := h 3 (by omega); have h4 := h 4 (by omega)
  rw [if_neg fun e => h0 e.symm, if_neg fun e => h1 e.symm, if_neg fun e => h2 e.symm, if_neg fun e => h3 e.symm, if_neg fun e => h4 e.symm]
theorem ret_kn {a c : Int} {b d : Bool} (h1 : a = c) (h2 : b = d) : Ending.returned (.tuple #[.int .i64 a, .bool b]) = .returned (.tuple #[.int .i64 c, .bool d]) := by rw [h1, h2]

set_option maxHeartbeats 2000000 in
theorem known_any (l : List UInt8) (w : World) (ht : KnAt w) :
    Calls Tryd.prog 30 #[strV l] w fun e w' => e = .returned (.tuple #[.int .i64 (knownN l), .bool (decide (0 < knownN l))]) ∧ Below w.heap.size w w' := by
  obtain ⟨tt, fr, hg⟩ := ht
  go_enter Tryd.func30, Tryd.ntmps30
  go_wp2_with (refine wpList_load_row rfl 99 _ rfl 0 rfl tt knRow fr _ hg Tryd.underlying99 rfl (by kernel_rfl) ?_)
  clear hg
  go_loopw [7] (fun i wr => ∃ k : Nat, k ≤ 5 ∧ i = .int .i64 k ∧ (∀ j (hj : j < 5), j < k → (kn[j]'hj).1 ≠ l) ∧ Below w.heap.size w wr) (fun i _ => 5 - (intOf i).toNat)
  case atStart => exact ⟨0, by omega, rfl, fun j _ h => absurd h (by omega), Below.refl _ _⟩
  case round =>
    obtain ⟨k, hk, rfl, hno, hB⟩ := hrel
    have HNO := Lib.hid hno
    have hsW := hB.size
    clear hno
    by_cases hlt : k < 5
    · have hix := idx_kn k hlt
      have HH := Lib.hid (kn_hit k hlt)
      have HP := Lib.hid (kn_pos k hlt)
      obtain ⟨N, hN⟩ : ∃ N, (kn[k]'hlt).1 = N := ⟨_, rfl⟩
      obtain ⟨R, hR⟩ : ∃ R, (kn[k]'hlt).2 = R := ⟨_, rfl⟩
      have HN := Lib.hid hN
      rw [hN, hR] at hix HH
      rw [hR] at HP
      clear hN hR
      by_cases hl : N = l
      · have t1 : (N == l) = true := by rw [beq_iff_eq]; exact hl
        have HL := Lib.hid hl
        clear hl
        go_wp2_with fail
        go_ret2
        exact ⟨ret_kn (by rw [← HL.out, HH.out]) (by rw [← HL.out, HH.out]; exact (decide_eq_true HP.out).symm), hB.alloc hsW _⟩
      · have t1 : (N == l) = false := by rw [beq_eq_false_iff_ne]; exact hl
        have HL := Lib.hid hl
        clear hl
        go_wp2_with fail
        go_roundw
        case rel => exact ⟨k + 1, by omega, by go_num, fun j hj hjk => by
          rcases Nat.lt_or_ge j k with h | h
          · exact HNO.out j hj h
          · obtain rfl : j = k := by omega
            rw [HN.out]; exact HL.out, hB.alloc hsW _⟩
        case measure => simp [intOf]; omega
    · obtain rfl : k = 5 := by omega
      have HE := Lib.hid (kn_none l (fun j hj => HNO.out j hj hj))
      go_wp2_with fail
      go_ret2
      exact ⟨ret_kn HE.out.symm (by rw [HE.out]; rfl), hB⟩
end Go.Proofs.YtncoldgkljnbeaaDoor
