/- CharsRanges for any numbers. -/
import Derived.Test.YtpgpniemkmiljaaDoorRngc
import Derived.Test.YtpgpniemkmiljaaDoorChf
namespace Go.Proofs.YtpgpniemkmiljaaDoor
open Go.ChangeShapes Go.WideShapes Go.ChangeAt Go.RowKit
set_option linter.unusedVariables false

theorem charsRanges_any (a : Int) (mu c : Nat) (w : World) (ha : I64 a) (hm : mu < 65536) (hc : c < 256) (ht : Tables w) :
    Calls Tryd.prog 4 #[.int .i64 a, .int .u16 mu, .int .u8 c] w fun e w' => e = .returned (.bool true) ∧ Below w.heap.size w w' := by
  have LV := inv_of ht fun w1 h1 => live_any w1 h1
  obtain ⟨ha0, ha1⟩ := ha
  by_cases hf : 4611686018427387904 < a
  · exact rangesLaw_far a mu c w hf hm LV
  · have D : c % 5 = 0 ∨ c % 5 = 1 ∨ c % 5 = 2 ∨ c % 5 = 3 ∨ c % 5 = 4 := by omega
    obtain ⟨n, hn⟩ : ∃ n, mu % 2000 = n := ⟨_, rfl⟩
    rcases D with hk | hk | hk | hk | hk
    · exact rangesLaw 11 (fun x => cls x 0) 0 a mu c n w ha0 (by omega) hm hc hk hn (fun _ => by kernel_rfl) ask_0
        (ranges_any _ _ w a (a + n) ha0 (by omega) (by omega) (by omega) (fun _ => by kernel_rfl) (fun _ _ => by kernel_rfl) (fun x w1 hB => char_any x w1 (ht.below hB))) (fun x w1 => rcls_any 0 (by omega) x w1) LV
    · exact rangesLaw 16 (fun x => cls x 1) 1 a mu c n w ha0 (by omega) hm hc hk hn (fun _ => by kernel_rfl) ask_1
        (ranges_any _ _ w a (a + n) ha0 (by omega) (by omega) (by omega) (fun _ => by kernel_rfl) (fun _ _ => by kernel_rfl) (fun x w1 hB => blankB_any x w1)) (fun x w1 => rcls_any 1 (by omega) x w1) LV
    · exact rangesLaw 12 (fun x => cls x 2) 2 a mu c n w ha0 (by omega) hm hc hk hn (fun _ => by kernel_rfl) ask_2
        (ranges_any _ _ w a (a + n) ha0 (by omega) (by omega) (by omega) (fun _ => by kernel_rfl) (fun _ _ => by kernel_rfl) (fun x w1 hB => nameStart_any x w1 (ht.below hB))) (fun x w1 => rcls_any 2 (by omega) x w1) LV
    · exact rangesLaw 13 (fun x => cls x 3) 3 a mu c n w ha0 (by omega) hm hc hk hn (fun _ => by kernel_rfl) ask_3
        (ranges_any _ _ w a (a + n) ha0 (by omega) (by omega) (by omega) (fun _ => by kernel_rfl) (fun _ _ => by kernel_rfl) (fun x w1 hB => nameChar_any x w1 (ht.below hB))) (fun x w1 => rcls_any 3 (by omega) x w1) LV
    · exact rangesLaw 17 (fun x => cls x 4) 4 a mu c n w ha0 (by omega) hm hc hk hn (fun _ => by kernel_rfl) ask_4
        (ranges_any _ _ w a (a + n) ha0 (by omega) (by omega) (by omega) (fun _ => by kernel_rfl) (fun _ _ => by kernel_rfl) (fun x w1 hB => pubid_any x w1 (ht.below hB))) (fun x w1 => rcls_any 4 (by omega) x w1) LV
end Go.Proofs.YtpgpniemkmiljaaDoor
