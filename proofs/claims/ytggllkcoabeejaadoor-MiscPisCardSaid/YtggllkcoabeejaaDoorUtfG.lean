/- The characters of a text, one by one: what is told, and the contract of the iterator. -/
import Derived.Test.YtggllkcoabeejaaDoorUtfE
import Derived.Test.YtggllkcoabeejaaDoorUtfF
import Derived.RangeFuncNested
import Derived.RangeFuncBound
import Derived.RangeFuncCalls
import Derived.RangeFuncLeaves
import Derived.Shelf.Abstract
import Derived.Shelf.RegionOpen
import Derived.OwnWalkIn
import Derived.TacticsInMore
import Derived.LoopNIn
import Derived.LoopIn
namespace Go.Proofs.YtggllkcoabeejaaDoor
open Go.ChangeShapes Go.WideShapes Go.ChangeAt Go.RowKit Go.Shelf
set_option linter.unusedVariables false
attribute [local go_sem] Oper.semAt_some

/-- A character on its way: its number, its place, the error. -/
abbrev Item := Int × Nat × Int
def itemV (x : Item) : Array Value := #[.agg #[.int .i64 x.1, .int .i64 (x.2.1 : Int)], .int .i64 x.2.2]
def items (l : List UInt8) : Nat → Nat → List Item
  | 0, _ => []
  | f + 1, k => if k < l.length then (if (chrAt l k).2 = 0 then [(0, k, 5)] else ((chrAt l k).1, k, 0) :: items l f (k + (chrAt l k).2)) else []
def stepsS (l : List UInt8) : List Item := items l l.length 0
theorem items_end (l : List UInt8) (f k : Nat) (h : l.length ≤ k) : items l f k = [] := by
  cases f with
  | zero => rfl
  | succ f => rw [items, if_neg (by omega)]
theorem items_bad (l : List UInt8) (f k : Nat) (h : k < l.length) (hc : (chrAt l k).2 = 0) : items l (f + 1) k = [(0, k, 5)] := by rw [items, if_pos h, if_pos hc]
theorem items_good (l : List UInt8) (f k : Nat) (h : k < l.length) (hc : (chrAt l k).2 ≠ 0) : items l (f + 1) k = ((chrAt l k).1, k, 0) :: items l f (k + (chrAt l k).2) := by
  rw [items, if_pos h, if_neg hc]
theorem chrAt_room (l : List UInt8) (k : Nat) (hk : k < l.length) : k + (chrAt l k).2 ≤ l.length ∧ (chrAt l k).2 ≤ 4 := by
  have key : ∀ j, 0 ≤ restS l j → j < l.length := by
    intro j h
    unfold restS at h
    split at h
    · omega
    · omega
  have k1 := key (k + 1)
  have k2 := key (k + 2)
  have k3 := key (k + 3)
  have hr : k + (rawS l k).2 ≤ l.length ∧ (rawS l k).2 ≤ 4 := by
    unfold rawS
    simp only []
    split
    · exact ⟨by simp only []; omega, by simp only []; omega⟩
    · split
      · exact ⟨by simp only []; omega, by simp only []; omega⟩
      · split
        · exact ⟨by simp only []; omega, by simp only []; omega⟩
        · split
          · exact ⟨by simp only []; omega, by simp only []; omega⟩
          · exact ⟨by simp only []; omega, by simp only []; omega⟩
  unfold chrAt
  simp only []
  split
  · exact ⟨by simp only []; omega, by simp only []; omega⟩
  · exact hr
theorem decode_err (l : List UInt8) (A : Option Addr) (n c k : Nat) (w : World) (hn : l.length = n) (hnc : n ≤ c) (hm : c ≤ 9223372036854775807) (hk : k < n) (hs : Sees w A (vB l)) (h : (chrAt l k).2 = 0) :
    Calls Tryd.prog 70 #[.slice A n c, .int .i64 k] w fun e w' => e = .returned (.tuple #[.int .i64 0, .int .i64 0, .int .i64 5]) ∧ w = w' := by
  have := decode_in l A n c k w hn hnc hm hk hs
  unfold decV at this
  rw [if_pos h] at this
  exact this
theorem decode_ok (l : List UInt8) (A : Option Addr) (n c k : Nat) (w : World) (hn : l.length = n) (hnc : n ≤ c) (hm : c ≤ 9223372036854775807) (hk : k < n) (hs : Sees w A (vB l)) (r : Int) (m : Nat) (h : chrAt l k = (r, m)) (h0 : m ≠ 0) :
    Calls Tryd.prog 70 #[.slice A n c, .int .i64 k] w fun e w' => e = .returned (.tuple #[.int .i64 r, .int .i64 ((k : Int) + m), .int .i64 0]) ∧ w = w' := by
  have := decode_in l A n c k w hn hnc hm hk hs
  unfold decV at this
  rw [h] at this
  simp only [] at this
  rw [if_neg h0] at this
  exact this

/-- What a round that goes on keeps: all that lay ahead of the call, and one more cell. -/
def KeepsBox (n₀ Bs : Nat) (W W' : World) : Prop := Below n₀ W W' ∧ ∀ v, W.cell? ⟨Bs, 0, none⟩ = some v → W'.cell? ⟨Bs, 0, none⟩ = some v
theorem keepsBox_t {n₀ Bs : Nat} {A B C : World} (h : KeepsBox n₀ Bs A B) (k : KeepsBox n₀ Bs B C) : KeepsBox n₀ Bs A C := ⟨h.1.trans k.1, fun v hv => k.2 v (h.2 v hv)⟩
theorem keepsBox_b {n₀ Bs : Nat} {w : World} (hn : n₀ ≤ w.heap.size) (W : World) (l : Nat) (o o' : Obj) (hl : w.heap.size ≤ l) (ho : W.heap[l]? = some o) (h1 : o.isCells = false) (h2 : o.isWalk = false) : KeepsBox n₀ Bs W (W.putObj l o') :=
  ⟨belowK_b hn W l o o' hl ho h1 h2, fun v hv => cell_kept hv (grownBy_putObj' W l o') (fun r e => by cases e; exact ⟨o, ho, h1⟩)⟩



end Go.Proofs.YtggllkcoabeejaaDoor
