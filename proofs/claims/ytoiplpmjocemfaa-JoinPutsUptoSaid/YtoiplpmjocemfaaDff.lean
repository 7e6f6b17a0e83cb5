/- The page's example of layer 42. -/
import Derived.Test.YtoiplpmjocemfaaDfe
import Derived.Test.YtoiplpmjocemfaaInts
namespace Go.Proofs.Ytoiplpmjocemfaa
open Go.ChangeShapes Go.WideShapes Go.ChangeAt Go.RowKit
set_option linter.unusedVariables false
set_option maxRecDepth 100000

def exE (k : Int) (b : UInt8) : Ev := ⟨k, ⟨#[]⟩, ⟨#[b]⟩, [], none, 0, ⟨#[]⟩⟩
def exL : List Ev := [exE 1 97, exE 1 98, exE 2 98, exE 2 97]
theorem exOpen : openN exL 2 = [⟨#[97]⟩, ⟨#[98]⟩] := rfl
theorem exSpan : spanV exL 0 = (3, 0) := rfl
theorem exFind : findN exL [⟨#[97]⟩, ⟨#[98]⟩] 4 = [1] := by
  have e1 : rowE sE [(⟨#[97]⟩ : ByteArray)] [⟨#[97]⟩, ⟨#[98]⟩] = false := rowE_ne (by simp)
  have e2 : rowE sE [(⟨#[97]⟩ : ByteArray), ⟨#[98]⟩] [⟨#[97]⟩, ⟨#[98]⟩] = true := rowE_self sE_self _
  rw [findN_at (e := exE 2 97) rfl, if_neg (by simp [exE]), findN_at (e := exE 2 98) rfl, if_neg (by simp [exE]), findN_at (e := exE 1 98) rfl, if_pos ⟨rfl, e2⟩, findN_at (e := exE 1 97) rfl, if_neg (by rw [show openN exL 1 = [⟨#[97]⟩] from rfl, e1]; simp)]
  rfl
theorem exOk (w : World) (t : TypeId) (f : Nat × Nat) : EvsOk (w.alloc (.cells (evsV exL).toArray t f)) (some ⟨w.heap.size, 0, none⟩) exL :=
  ⟨sees_lit w _ _ _, fun e he => by
    have : e.at_ = [] ∧ e.c = 0 ∧ I64 e.kind := by
      simp only [exL, List.mem_cons, List.mem_nil_iff, or_false] at he
      rcases he with rfl | rfl | rfl | rfl <;> exact ⟨rfl, rfl, by unfold exE I64; simp⟩
    obtain ⟨h1, h2, h3⟩ := this
    exact ⟨by rw [h1]; exact sees_nil _ _, by rw [h1]; simp, by rw [h2]; omega, h3⟩⟩

set_option maxHeartbeats 4000000 in
theorem live42_any (w : World) : Calls Try.prog 50 #[] w fun e w' => e = .returned (.bool true) ∧ Below w.heap.size w w' := by
  have hb2 : Below w.heap.size w ((w.alloc (.cells #[.string ⟨#[]⟩, .string ⟨#[97]⟩] 73)).alloc (.cells #[.string ⟨#[]⟩, .string ⟨#[98]⟩] 73)) := ((Below.refl _ _).alloc (Nat.le_refl _) _).alloc (by simp) _
  have hok := exOk ((w.alloc (.cells #[.string ⟨#[]⟩, .string ⟨#[97]⟩] 73)).alloc (.cells #[.string ⟨#[]⟩, .string ⟨#[98]⟩] 73)) 76 (0, 0)
  have hb3 := hb2.alloc hb2.size (.cells (evsV exL).toArray 76 (0, 0))
  rw [World.size_alloc, World.size_alloc] at hok
  obtain ⟨W3, hW3⟩ : ∃ W3, ((w.alloc (.cells #[.string ⟨#[]⟩, .string ⟨#[97]⟩] 73)).alloc (.cells #[.string ⟨#[]⟩, .string ⟨#[98]⟩] 73)).alloc (.cells (evsV exL).toArray 76 (0, 0)) = W3 := ⟨_, rfl⟩
  rw [hW3] at hok hb3
  have H1 := path_in exL (some ⟨w.heap.size + 1 + 1, 0, none⟩) 4 4 2 W3 rfl (by omega) (by omega) (by omega) hok (by omega)
  have H2 := fun (w' : World) (hb : Below W3.heap.size W3 w') => span_any exL (some ⟨w.heap.size + 1 + 1, 0, none⟩) 4 4 0 w' rfl (by omega) (by omega) (by omega) ⟨by omega, by omega⟩ (hok.below hb)
  have H3 := fun (w' : World) (hb : Below W3.heap.size W3 w') (P : Option Addr) (np cp : Nat) (h1 : ([⟨#[97]⟩, ⟨#[98]⟩] : List ByteArray).length = np) (h2 : np ≤ 1000000) (h3 : Sees w' P (sV [⟨#[97]⟩, ⟨#[98]⟩])) => find_any exL [⟨#[97]⟩, ⟨#[98]⟩] (some ⟨w.heap.size + 1 + 1, 0, none⟩) P 4 4 np cp w' rfl h1 (by omega) (by omega) (by omega) h2 (hok.below hb) h3
  rw [exOpen] at H1
  rw [exSpan] at H2
  rw [exFind] at H3
  rw [← hW3] at H1
  have K1 := Lib.hid H1
  have HW := Lib.hid hW3
  have K2 := Lib.hid H2
  have K3 := Lib.hid H3
  have HT := rowE_self sE_self [(⟨#[97]⟩ : ByteArray), ⟨#[98]⟩]
  have K4 := Lib.hid (fun (w' : World) (A B : Option Addr) (c d : Nat) hA hB => HT ▸ texts_any [⟨#[97]⟩, ⟨#[98]⟩] [⟨#[97]⟩, ⟨#[98]⟩] A B 2 2 c d w' rfl rfl (by omega) (by omega) hA hB)
  have K5 := Lib.hid (fun (w' : World) (A B : Option Addr) (c d : Nat) hA hB => numsEq_any A B 1 1 c d [1] [1] w' rfl rfl (by omega) hA hB)
  clear H1 H2 H3 HT hok hW3 hb2
  go_enter Try.func50, Try.ntmps50
  go_wp2_with fail
  refine K1.out.mono ?_
  rintro e w4 ⟨A4, c4, rfl, hs4, hle4, hcm4, hb4⟩
  rw [HW.out] at hb4
  have HS4 := Lib.hid hs4
  clear hs4
  go_wp2_with fail
  refine (K2.out w4 hb4).mono ?_
  rintro e w5 ⟨rfl, b5⟩
  have hb5 := hb4.trans (b5.mono hb4.size)
  have HS5 := Lib.hid (HS4.out.below b5)
  go_wp2_with fail
  have b6 : Below w5.heap.size w5 (w5.alloc (.cells (sV [⟨#[97]⟩, ⟨#[98]⟩]).toArray 9 (0, 0))) := (Below.refl _ _).alloc (Nat.le_refl _) _
  have hb6 := hb5.trans (b6.mono hb5.size)
  refine (K4.out _ A4 (some ⟨w5.heap.size, 0, none⟩) c4 2 (HS5.out.below b6) (sees_lit w5 (sV [⟨#[97]⟩, ⟨#[98]⟩]) _ _)).mono ?_
  rintro e w7 ⟨rfl, b7⟩
  have hb7 := hb6.trans (b7.mono hb6.size)
  go_wp2_with fail
  refine (K3.out w7 hb7 A4 2 c4 rfl (by omega) ((HS5.out.below b6).below b7)).mono ?_
  rintro e w8 ⟨A8, c8, rfl, hs8, hle8, hcm8, b8⟩
  have hb8 := hb7.trans (b8.mono hb7.size)
  have HS8 := Lib.hid hs8
  clear hs8
  go_wp2_with fail
  have b9 : Below w8.heap.size w8 (w8.alloc (.cells (iV [1]).toArray 3 (0, 0))) := (Below.refl _ _).alloc (Nat.le_refl _) _
  refine (K5.out _ A8 (some ⟨w8.heap.size, 0, none⟩) c8 1 (HS8.out.below b9) (sees_lit w8 (iV [1]) _ _)).mono ?_
  rintro e w9 ⟨he, b10⟩
  have hb9 := (hb8.trans (b9.mono hb8.size))
  have hb10 := hb9.trans (b10.mono hb9.size)
  simp only [decide_true] at he
  subst he
  go_wp2_with fail
  go_ret
  exact ⟨rfl, hb3.trans (hb10.mono hb3.size)⟩
end Go.Proofs.Ytoiplpmjocemfaa
