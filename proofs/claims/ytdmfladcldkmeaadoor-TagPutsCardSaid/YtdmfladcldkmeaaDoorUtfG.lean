/- The characters of a text, one by one: what is told, and the contract of the iterator. -/
import Derived.Test.YtdmfladcldkmeaaDoorUtfE
import Derived.Test.YtdmfladcldkmeaaDoorUtfF
import Derived.RangeFuncNested
import Derived.RangeFuncBound
import Derived.RangeFuncCalls
import Derived.RangeFuncLeaves
import Derived.Shelf.Abstract
import Derived.Shelf.RegionOpen
import Derived.OwnWalkIn
import Derived.TacticsInMore
import Derived.LoopNIn
import Derived.LoopIn
namespace Go.Proofs.YtdmfladcldkmeaaDoor
open Go.ChangeShapes Go.WideShapes Go.ChangeAt Go.RowKit Go.Shelf
set_option linter.unusedVariables false
attribute [local go_sem] Oper.semAt_some

/-- A character on its way: its number, its place, the error. -/
abbrev Item := Int × Nat × Int
def itemV (x : Item) : Array Value := #[.agg #[.int .i64 x.1, .int .i64 (x.2.1 : Int)], .int .i64 x.2.2]
def items (l : List UInt8) : Nat → Nat → List Item
  | 0, _ => []
  | f + 1, k => if k < l.length then (if (chrAt l k).2 = 0 then [(0, k, 5)] else ((chrAt l k).1, k, 0) :: items l f (k + (chrAt l k).2)) else []
def stepsS (l : List UInt8) : List Item := items l l.length 0
theorem items_end (l : List UInt8) (f k : Nat) (h : l.length ≤ k) : items l f k = [] := by
  cases f with
  | zero => rfl
  | succ f => rw [items, if_neg (by omega)]
theorem items_bad (l : List UInt8) (f k : Nat) (h : k < l.length) (hc : (chrAt l k).2 = 0) : items l (f + 1) k = [(0, k, 5)] := by rw [items, if_pos h, if_pos hc]
theorem items_good (l : List UInt8) (f k : Nat) (h : k < l.length) (hc : (chrAt l k).2 ≠ 0) : items l (f + 1) k = ((chrAt l k).1, k, 0) :: items l f (k + (chrAt l k).2) := by
  rw [items, if_pos h, if_neg hc]
theorem chrAt_room (l : List UInt8) (k : Nat) (hk : k < l.length) : k + (chrAt l k).2 ≤ l.length ∧ (chrAt l k).2 ≤ 4 := by
  have key : ∀ j, 0 ≤ restS l j → j < l.length := by
    intro j h
    unfold restS at h
    split at h
    · omega
    · omega
  have k1 := key (k + 1)
  have k2 := key (k + 2)
  have k3 := key (k + 3)
  have hr : k + (rawS l k).2 ≤ l.length ∧ (rawS l k).2 ≤ 4 := by
    unfold rawS
    simp only []
    split
    · exact ⟨by simp only []; omega, by simp only []; omega⟩
    · split
      · exact ⟨by simp only []; omega, by simp only []; omega⟩
      · split
        · exact ⟨by simp only []; omega, by simp only []; omega⟩
        · split
          · exact ⟨by simp only []; omega, by simp only []; omega⟩
          · exact ⟨by simp only []; omega, by simp only []; omega⟩
  unfold chrAt
  simp only []
  split
  · exact ⟨by simp only []; omega, by simp only []; omega⟩
  · exact hr
theorem decode_err (l : List UInt8) (A : Option Addr) (n c k : Nat) (w : World) (hn : l.length = n) (hnc : n ≤ c) (hm : c ≤ 9223372036854775807) (hk : k < n) (hs : Sees w A (vB l)) (h : (chrAt l k).2 = 0) :
    Calls Tryd.prog 156 #[.slice A n c, .int .i64 k] w fun e w' => e = .returned (.tuple #[.int .i64 0, .int .i64 0, .int .i64 5]) ∧ w = w' := by
  have := decode_in l A n c k w hn hnc hm hk hs
  unfold decV at this
  rw [if_pos h] at this
  exact this
theorem decode_ok (l : List UInt8) (A : Option Addr) (n c k : Nat) (w : World) (hn : l.length = n) (hnc : n ≤ c) (hm : c ≤ 9223372036854775807) (hk : k < n) (hs : Sees w A (vB l)) (r : Int) (m : Nat) (h : chrAt l k = (r, m)) (h0 : m ≠ 0) :
    Calls Tryd.prog 156 #[.slice A n c, .int .i64 k] w fun e w' => e = .returned (.tuple #[.int .i64 r, .int .i64 ((k : Int) + m), .int .i64 0]) ∧ w = w' := by
  have := decode_in l A n c k w hn hnc hm hk hs
  unfold decV at this
  rw [h] at this
  simp only [] at this
  rw [if_neg h0] at this
  exact this

/-- What a round that goes on keeps: all that lay ahead of the call, and one more cell. -/
def KeepsBox (n₀ Bs : Nat) (W W' : World) : Prop := Below n₀ W W' ∧ ∀ v, W.cell? ⟨Bs, 0, none⟩ = some v → W'.cell? ⟨Bs, 0, none⟩ = some v
theorem keepsBox_t {n₀ Bs : Nat} {A B C : World} (h : KeepsBox n₀ Bs A B) (k : KeepsBox n₀ Bs B C) : KeepsBox n₀ Bs A C := ⟨h.1.trans k.1, fun v hv => k.2 v (h.2 v hv)⟩
theorem keepsBox_b {n₀ Bs : Nat} {w : World} (hn : n₀ ≤ w.heap.size) (W : World) (l : Nat) (o o' : Obj) (hl : w.heap.size ≤ l) (ho : W.heap[l]? = some o) (h1 : o.isCells = false) (h2 : o.isWalk = false) : KeepsBox n₀ Bs W (W.putObj l o') :=
  ⟨belowK_b hn W l o o' hl ho h1 h2, fun v hv => cell_kept hv (grownBy_putObj' W l o') (fun r e => by cases e; exact ⟨o, ho, h1⟩)⟩

set_option maxRecDepth 100000 in
set_option maxHeartbeats 2000000 in
theorem steps1_in (n : Nat) (hn : 1 ≤ n) (lp Bs len cap : Nat) (A : Option Addr) (l : List UInt8) (hlen : l.length = len) (hnc : len ≤ cap) (hcap : cap ≤ 9223372036854775807) (w0 : World) (hs : Sees w0 A (vB l))
    (J Jx : List Item → World → Prop)
    (hY : ∀ pre x W, J pre W → pre.length < (stepsS l).length → YieldAt Fence.wide (n - 1) Tryd.prog lp (itemV x) W fun e W' =>
      (e = .returned (.bool true) ∧ J (pre ++ [x]) W' ∧ KeepsBox w0.heap.size Bs W W') ∨ (e = .returned (.bool false) ∧ Jx (pre ++ [x]) W'))
    (W : World) (hW : Below w0.heap.size w0 W) (hBs : W.cell? ⟨Bs, 0, none⟩ = some (.slice A len cap)) (h0 : J [] W) :
    CallsIn Fence.wide n Tryd.prog 155 #[.func (.yield lp) #[] #[], .pointer (some ⟨Bs, 0, none⟩)] W fun e W' => (∃ v, e = .returned v) ∧
      ((∃ ys, ys = stepsS l ∧ J ys W') ∨ (∃ pre, pre <+: stepsS l ∧ Jx pre W')) := by
  have HL := Lib.hid hlen
  refine callsIn_of_wp Tryd.func155 rfl trivial ?_ rfl
  simp only [Tryd.ntmps155, List.size_toArray, List.length_cons, List.length_nil, Nat.reduceAdd, Nat.reduceSub, Array.replicate_succ, Array.replicate_zero, List.push_toArray, List.append_toArray, List.nil_append, List.cons_append]
  clear hlen
  gi_wp2
  gi_loopw [3] (fun i wr => ∃ k f : Nat, ∃ pre : List Item, k ≤ len ∧ len ≤ k + f ∧ i = .int .i64 k ∧ pre ++ items l f k = stepsS l ∧ J pre wr ∧ Below w0.heap.size w0 wr ∧ wr.cell? ⟨Bs, 0, none⟩ = some (.slice A len cap))
    (fun i _ => len - (intOf i).toNat)
  case atStart => exact ⟨0, len, [], by omega, by omega, rfl, by unfold stepsS; rw [HL.out]; rfl, h0, hW, hBs⟩
  case round =>
    obtain ⟨k, f, pre, hk, hf, rfl, hp, hJs, hbw, hbx⟩ := hrel
    have HP := Lib.hid hp
    clear hp
    by_cases hlt : k < len
    · obtain ⟨f, rfl⟩ : ∃ g, f = g + 1 := ⟨f - 1, by omega⟩
      have hkl : k < l.length := by rw [HL.out]; exact hlt
      have hsw := hs.below hbw
      by_cases hc : (chrAt l k).2 = 0
      · have hpl : pre.length < (stepsS l).length := by rw [← HP.out, items_bad l f k hkl hc]; simp
        obtain ⟨fn, tmps, assign, body, hy, hR⟩ := hY pre (0, k, 5) wr hJs hpl
        unfold itemV at hy
        dsimp only at hy
        have HD := Lib.hid (fun w hs => decode_err l A len cap k w HL.out hnc hcap hlt hs hc)
        have HE := Lib.hid (items_bad l f k hkl hc)
        have HS := Lib.hid hsw
        clear hc hkl hsw hs hpl
        gi_wp2_with (refine ⟨trivial, ?_⟩; gi_at_call 156; refine (callsIn_wide.2 (HD.out _ HS.out)).mono ?_; rintro e w' ⟨rfl, rfl⟩)
        refine hR.mono ?_
        rintro e W3 (⟨rfl, hJ3, hk3⟩ | ⟨rfl, hJx3⟩)
        · gi_wp2
          refine bodyPost_ret (results_none rfl _ _ _) rfl ?_
          exact ⟨⟨_, rfl⟩, .inl ⟨_, by rw [← HP.out, HE.out], hJ3⟩⟩
        · gi_wp2
          refine bodyPost_ret (results_none rfl _ _ _) rfl ?_
          exact ⟨⟨_, rfl⟩, .inr ⟨_, by rw [← HP.out, HE.out]; exact List.prefix_refl _, hJx3⟩⟩
      · obtain ⟨r, m, hrm⟩ : ∃ r m, chrAt l k = (r, m) := ⟨_, _, rfl⟩
        have hroom := chrAt_room l k hkl
        rw [hrm] at hc hroom
        have hit := items_good l f k hkl (by rw [hrm]; exact hc)
        rw [hrm] at hit
        simp only [] at hc hroom hit
        obtain ⟨hm1, hm4⟩ := hroom
        rw [HL.out] at hm1
        have hpl : pre.length < (stepsS l).length := by rw [← HP.out, hit]; simp
        obtain ⟨fn, tmps, assign, body, hy, hR⟩ := hY pre (r, k, 0) wr hJs hpl
        unfold itemV at hy
        dsimp only at hy
        have HD := Lib.hid (fun w hs => decode_ok l A len cap k w HL.out hnc hcap hlt hs r m hrm hc)
        have HE := Lib.hid hit
        have HS := Lib.hid hsw
        have hm0 : 1 ≤ m := by omega
        clear hc hkl hsw hs hpl hit hrm
        gi_wp2_with (refine ⟨trivial, ?_⟩; gi_at_call 156; refine (callsIn_wide.2 (HD.out _ HS.out)).mono ?_; rintro e w' ⟨rfl, rfl⟩)
        refine hR.mono ?_
        rintro e W3 (⟨rfl, hJ3, hk3⟩ | ⟨rfl, hJx3⟩)
        · have hbx3 := hk3.2 _ hbx
          gi_wp2
          go_roundw
          case rel => exact ⟨k + m, f, pre ++ [(r, k, 0)], by omega, by omega, by go_num, by rw [← HP.out, HE.out]; simp, hJ3, hbw.trans hk3.1, hbx3⟩
          case measure => simp [intOf]; omega
        · gi_wp2
          refine bodyPost_ret (results_none rfl _ _ _) rfl ?_
          exact ⟨⟨_, rfl⟩, .inr ⟨pre ++ [(r, k, 0)], by rw [← HP.out, HE.out]; exact ⟨_, List.append_assoc _ _ _⟩, hJx3⟩⟩
    · have hkk : len ≤ k := by omega
      have HE := Lib.hid (items_end l f k (by rw [HL.out]; exact hkk))
      gi_wp2
      go_end0
      exact ⟨⟨_, rfl⟩, .inl ⟨_, by rw [← HP.out, HE.out, List.append_nil], hJs⟩⟩

set_option maxHeartbeats 1000000 in
theorem steps_in (n : Nat) (A : Option Addr) (len cap : Nat) (w : World) :
    CallsIn Fence.wide n Tryd.prog 129 #[.slice A len cap] w fun e w' => e = .returned (.func (.func 155) #[] #[.pointer (some ⟨w.heap.size, 0, none⟩)]) ∧ w' = w.alloc (.cells #[.slice A len cap] 36) := by
  refine callsIn_of_wp Tryd.func129 rfl trivial ?_ rfl
  simp only [Tryd.ntmps129, List.size_toArray, List.length_cons, List.length_nil, Nat.reduceAdd, Nat.reduceSub, Array.replicate_succ, Array.replicate_zero, List.push_toArray, List.append_toArray, List.nil_append, List.cons_append]
  gi_wp2
  go_ret
  exact ⟨rfl, rfl⟩

theorem steps_stops (n : Nat) (hn : 1 ≤ n) (Bs len cap : Nat) (A : Option Addr) (l : List UInt8) (hlen : l.length = len) (hnc : len ≤ cap) (hcap : cap ≤ 9223372036854775807) (w0 w : World) (hs : Sees w0 A (vB l)) (hw : Below w0.heap.size w0 w)
    (hBs : Bs < w.heap.size) (hbx : w.cell? ⟨Bs, 0, none⟩ = some (.slice A len cap)) :
    SeqStopsK Fence.wide n Tryd.prog 155 #[.pointer (some ⟨Bs, 0, none⟩)] itemV (KeepsBox w0.heap.size Bs) (fun ys => ys = stepsS l) (fun pre => pre <+: stepsS l) (stepsS l).length w := fun lp J Jx W hW _ _ hY h0 =>
  steps1_in n hn lp Bs len cap A l hlen hnc hcap w0 hs J Jx hY W (hw.trans (hW.mono hw.size)) ((hW.cell (p := ⟨Bs, 0, none⟩) hBs).trans hbx) h0
end Go.Proofs.YtdmfladcldkmeaaDoor
