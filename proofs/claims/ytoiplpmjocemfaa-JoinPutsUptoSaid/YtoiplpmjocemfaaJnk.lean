/- The page's example of layer 37. -/
import Derived.Test.YtoiplpmjocemfaaJnj
import Derived.Test.YtoiplpmjocemfaaDff
import Derived.Test.YtoiplpmjocemfaaEvz
namespace Go.Proofs.Ytoiplpmjocemfaa
open Go.ChangeShapes Go.WideShapes Go.ChangeAt Go.RowKit
set_option linter.unusedVariables false
set_option maxRecDepth 100000

def exC : Ev := ⟨5, ⟨#[]⟩, ⟨#[]⟩, [], none, 0, ⟨#[]⟩⟩
def exI : List Ev := [textE [97], textE [98], exC, textE [], textE [99]]
def exO : List Ev := [textE [97, 98], exC, textE [99]]
theorem textE_ok (w : World) (t : List UInt8) : EvOk w (textE t) := ⟨sees_nil _ _, Nat.le_refl _, by unfold textE; simp, ⟨by unfold textE; simp, by unfold textE; simp⟩⟩
theorem exC_ok (w : World) : EvOk w exC := ⟨sees_nil _ _, Nat.le_refl _, by unfold exC; simp, ⟨by unfold exC; simp, by unfold exC; simp⟩⟩
theorem exI_ok (w : World) (t : TypeId) : EvsOk (w.alloc (.cells (evsV exI).toArray t)) (some ⟨w.heap.size, 0, none⟩) exI :=
  ⟨sees_lit w _ _ _, fun e he => by
    simp only [exI, List.mem_cons, List.mem_nil_iff, or_false] at he
    rcases he with rfl | rfl | rfl | rfl | rfl <;> first | exact textE_ok _ _ | exact exC_ok _⟩
theorem exO_ok (w : World) (t : TypeId) : EvsOk (w.alloc (.cells (evsV exO).toArray t)) (some ⟨w.heap.size, 0, none⟩) exO :=
  ⟨sees_lit w _ _ _, fun e he => by
    simp only [exO, List.mem_cons, List.mem_nil_iff, or_false] at he
    rcases he with rfl | rfl | rfl <;> first | exact textE_ok _ _ | exact exC_ok _⟩
theorem exJoin : joinA exI = exO := by
  have h : joinN exI 5 = ([textE [97, 98], exC], [99]) := by
    rw [joinN_at (e := textE [99]) rfl, joinN_at (e := textE []) rfl, joinN_at (e := exC) rfl, joinN_at (e := textE [98]) rfl, joinN_at (e := textE [97]) rfl]
    simp [joinN, stepJ, flushJ, textE, exC, ByteArray.toList_eq]
  rw [show joinA exI = flushJ (joinN exI 5) from rfl, h]
  rfl
set_option maxHeartbeats 4000000 in
theorem live37_any (w : World) : Calls Try.prog 42 #[] w fun en w' => en = .returned (.bool true) ∧ Below w.heap.size w w' := by
  have hb1 := (Below.refl w.heap.size w).alloc (Nat.le_refl _) (.cells (evsV exI).toArray 76)
  have K1 := Lib.hid (jall_any exI (some ⟨w.heap.size, 0, none⟩) 5 5 (w.alloc (.cells (evsV exI).toArray 76)) rfl (by omega) (by omega) (by omega) (by simp [txLen, exI, textE, exC, ByteArray.toList_eq]) (fun e he => by
    simp only [exI, List.mem_cons, List.mem_nil_iff, or_false] at he
    rcases he with rfl | rfl | rfl | rfl | rfl <;> simp [textE, exC]) (exI_ok w _))
  have K2 := Lib.hid (fun (w' : World) (A' : Option Addr) (c : Nat) (o' : List Ev) (h1 : o'.map nrm = exO.map nrm) (h2 : EvsOk (w'.alloc (.cells (evsV exO).toArray 76)) A' o') => (like_same h1) ▸ same_any o' exO A' (some ⟨w'.heap.size, 0, none⟩) o'.length 3 c 3 _ rfl rfl (by have := congrArg List.length h1; simp [exO] at this; omega) (by omega) h2 (exO_ok w' _))
  go_enter Try.func42, Try.ntmps42
  go_wp2_with fail
  refine K1.out.mono ?_
  rintro en w2 ⟨A2, c2, o', rfl, hok, hn, _, _, b2⟩
  have hb2 := hb1.trans (b2.mono (by simp))
  have hws := hb2.size
  rw [exJoin] at hn
  have KS := Lib.hid (K2.out w2 A2 c2 o' hn (hok.below ((Below.refl _ w2).alloc (Nat.le_refl _) _)))
  have hlen : o'.length = 3 := by simpa [exO] using congrArg List.length hn
  rw [hlen] at KS ⊢
  clear hn hok
  go_wp2_with fail
  refine KS.out.mono ?_
  rintro en w3 ⟨rfl, b3⟩
  go_wp2_with fail
  go_ret
  exact ⟨rfl, (hb2.alloc hws _).trans (b3.mono (by simp; omega))⟩
end Go.Proofs.Ytoiplpmjocemfaa
