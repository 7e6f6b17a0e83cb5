/- Comments and marked texts, read at any place of any bytes. -/
import Derived.Test.YtggllkcoabeejaaDoorMid
namespace Go.Proofs.YtggllkcoabeejaaDoor
open Go.ChangeShapes Go.WideShapes Go.ChangeAt Go.RowKit
set_option linter.unusedVariables false
set_option maxRecDepth 100000

def cA : List UInt8 := [60, 33, 45, 45]
def cB : List UInt8 := [45, 45, 62]
def dA : List UInt8 := [60, 33, 91, 67, 68, 65, 84, 65, 91]
def dB : List UInt8 := [93, 93, 62]
def cmtV (l : List UInt8) (k : Int) : Value := mrkV l cA cB k (cfV (l.drop (k.toNat + 4)))
def datV (l : List UInt8) (k : Int) : Value := mrkV l dA dB k (Lib.index (l.drop (k.toNat + 9)) dB)
theorem mrkV_tup (l a b : List UInt8) (k z : Int) : ∃ x y e, mrkV l a b k z = .tuple #[x, y, e] := by
  unfold mrkV noM
  split
  · exact ⟨_, _, _, rfl⟩
  · split
    · exact ⟨_, _, _, rfl⟩
    · split <;> exact ⟨_, _, _, rfl⟩
theorem enters_cm : Enters 38 := fun _ _ => by kernel_rfl
theorem enters_first : Enters 54 := fun _ _ => by kernel_rfl
theorem cfV_room (l : List UInt8) (h : 0 ≤ cfV l) : cfV l + 2 ≤ l.length := by
  unfold cfV at h ⊢
  split at h
  · omega
  · next hh =>
    rw [if_neg hh]
    have := Lib.index_room l [45, 45] (by omega)
    simpa using this
abbrev cMarks : Value := .agg #[strV cA, strV cB, .func (.func 38) #[] #[]]
abbrev dMarks (b : Nat) : Value := .agg #[strV dA, strV dB, .func (.func 54) #[] #[.pointer (some ⟨b, 0, none⟩)]]
theorem cMarks_any (w : World) : Calls Tryd.prog 20 #[] w fun e w' => e = .returned cMarks ∧ Below w.heap.size w w' := by
  go_enter Tryd.func20, Tryd.ntmps20
  go_wp2_with fail
  go_returns
  exact ⟨rfl, (Below.refl _ _).alloc (Nat.le_refl _) _⟩
theorem first_any (mark : List UInt8) (w : World) : Calls Tryd.prog 40 #[strV mark] w fun e w' => e = .returned (.func (.func 54) #[] #[.pointer (some ⟨w.heap.size, 0, none⟩)]) ∧ w' = w.alloc (.cells #[strV mark] 9) := by
  go_enter Tryd.func40, Tryd.ntmps40
  go_wp2_with fail
  go_ret
  exact ⟨rfl, rfl⟩
theorem dMarks_any (w : World) : Calls Tryd.prog 23 #[] w fun e w' => ∃ b, e = .returned (dMarks b) ∧ Below w.heap.size w w' ∧ w'.cell? ⟨b, 0, none⟩ = some (strV dB) := by
  go_enter Tryd.func23, Tryd.ntmps23
  go_wp2_with fail
  refine (first_any dB _).mono ?_
  rintro e w2 ⟨rfl, rfl⟩
  go_wp2_with fail
  refine bodyPost_ret (v := dMarks (w.heap.size + 1)) (by simp [results, Tryd.results23, go_sem, dA, dB]) rfl ⟨_, rfl, ((Below.refl _ _).alloc (Nat.le_refl _) _).alloc (by simp) _, by simp⟩
set_option maxHeartbeats 1000000 in
theorem comment_any (l : List UInt8) (A : Option Addr) (n c : Nat) (k : Int) (w : World) (hn : l.length = n) (hnc : n ≤ c) (hc9 : c ≤ 9223372036854775807) (hk : I64 k) (hs : Sees w A (vB l)) (hn9 : n ≤ 1000000000) (hm : MaxAt w) :
    Calls Tryd.prog 7 #[.slice A n c, .int .i64 k] w fun e w' => e = .returned (cmtV l k) ∧ Below w.heap.size w w' := by
  have H := fun (w' : World) (hb : Below w.heap.size w w') => mread_any cA cB l 38 #[] A n c k (cfV (l.drop (k.toNat + 4))) w' hn hnc hc9 hk (hs.below hb) (by simp [cA]) (by simp [cA]) (by simp [cB]) hn9 enters_cm
    (fun hk2 w2 A2 n2 c2 hb2 h1 h2 h3 h4 => cfind_any _ A2 n2 c2 w2 h1 h2 h3 h4 (by simp at h1; omega) ((hm.below hb).below hb2))
    (fun h => by have := cfV_room _ h; simp at this; simp [cA]; omega)
  obtain ⟨x, y, e, hv⟩ := mrkV_tup l cA cB k (cfV (l.drop (k.toNat + 4)))
  unfold cmtV
  rw [hv] at H ⊢
  have HH := Lib.hid H
  clear H hv
  go_enter Tryd.func7, Tryd.ntmps7
  go_wp2_with fail
  refine (cMarks_any _).mono ?_
  rintro e1 w1 ⟨rfl, b1⟩
  go_wp2_with fail
  refine (HH.out _ b1).mono ?_
  rintro e2 w2 ⟨rfl, b2⟩
  go_wp2_with fail
  go_ret3
  exact ⟨rfl, b1.trans (b2.mono b1.size)⟩
set_option maxHeartbeats 1000000 in
theorem cdata_any (l : List UInt8) (A : Option Addr) (n c : Nat) (k : Int) (w : World) (hn : l.length = n) (hnc : n ≤ c) (hc9 : c ≤ 9223372036854775807) (hk : I64 k) (hs : Sees w A (vB l)) (hn9 : n ≤ 1000000000) (hm : MaxAt w) :
    Calls Tryd.prog 9 #[.slice A n c, .int .i64 k] w fun e w' => e = .returned (datV l k) ∧ Below w.heap.size w w' := by
  have H := fun (w' : World) (b : Nat) (hb : Below w.heap.size w w') (hc : w'.cell? ⟨b, 0, none⟩ = some (strV dB)) => mread_any dA dB l 54 #[.pointer (some ⟨b, 0, none⟩)] A n c k (Lib.index (l.drop (k.toNat + 9)) dB) w' hn hnc hc9 hk (hs.below hb) (by simp [dA]) (by simp [dA]) (by simp [dB]) hn9 enters_first
    (fun hk2 w2 A2 n2 c2 hb2 h1 h2 h3 h4 => ffind_any _ dB A2 n2 c2 b w2 h1 h2 h3 h4 (by simp at h1; omega) (by simp [dB]) (by simp [dB]) ((hm.below hb).below hb2) (cell_later hb2 hc))
    (fun h => by have := Lib.index_room _ _ h; rw [List.length_drop, show dB.length = 3 from rfl] at this; rw [show dA.length = 9 from rfl]; omega)
  obtain ⟨x, y, e, hv⟩ := mrkV_tup l dA dB k (Lib.index (l.drop (k.toNat + 9)) dB)
  unfold datV
  rw [hv] at H ⊢
  have HH := Lib.hid H
  clear H hv
  go_enter Tryd.func9, Tryd.ntmps9
  go_wp2_with fail
  refine (dMarks_any _).mono ?_
  rintro e1 w1 ⟨b, rfl, b1, hc1⟩
  go_wp2_with fail
  refine (HH.out _ _ b1 hc1).mono ?_
  rintro e2 w2 ⟨rfl, b2⟩
  go_wp2_with fail
  go_ret3
  exact ⟨rfl, b1.trans (b2.mono b1.size)⟩
end Go.Proofs.YtggllkcoabeejaaDoor
