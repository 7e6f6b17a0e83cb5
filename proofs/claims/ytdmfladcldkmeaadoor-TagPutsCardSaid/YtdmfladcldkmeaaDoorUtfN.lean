/- Contracts: the document's own Runes and Ints; Text. -/
import Derived.Test.YtdmfladcldkmeaaDoorUtfK
namespace Go.Proofs.YtdmfladcldkmeaaDoor
open Go.ChangeShapes Go.WideShapes Go.ChangeAt Go.RowKit
set_option linter.unusedVariables false

/-- What the document's own Runes tells. -/
def RRunesPost (l : List UInt8) (w : World) (e : Ending) (W' : World) : Prop :=
  (badS l = none → ∃ v, e = .returned (.tuple #[v, .int .i64 (-1)]) ∧ W'.ownsRow w.heap.size 3 1 v (runesS l).length ((runesS l).map (Value.int .i64))) ∧
  (∀ k, badS l = some k → e = .returned (.tuple #[.slice none 0 0, .int .i64 (k : Int)])) ∧ Below w.heap.size w W'
theorem rchar_err (l : List UInt8) (A : Option Addr) (n c k : Nat) (w : World) (hn : l.length = n) (hm : n ≤ 9223372036854775800) (hk : k < n) (hs : Sees w A (vB l)) (h : (chrAt l k).2 = 0) :
    Calls Tryd.prog 133 #[.slice A n c, .int .i64 k] w fun e w' => e = .returned (.tuple #[.int .i64 0, .int .i64 0]) ∧ Below w.heap.size w w' := by
  have := rchar_any l A n c k w hn hm hk hs
  have h2 : chrV l k = .tuple #[.int .i64 0, .int .i64 0] := by
    unfold chrV
    have : chrAt l k = (0, 0) := by
      unfold chrAt at h ⊢
      simp only [] at h ⊢
      split
      · rfl
      · next hc => rw [if_neg hc] at h; exact absurd (.inl h) hc
    rw [this]; rfl
  rw [h2] at this
  exact this
theorem rchar_ok (l : List UInt8) (A : Option Addr) (n c k : Nat) (w : World) (hn : l.length = n) (hm : n ≤ 9223372036854775800) (hk : k < n) (hs : Sees w A (vB l)) (r : Int) (m : Nat) (h : chrAt l k = (r, m)) :
    Calls Tryd.prog 133 #[.slice A n c, .int .i64 k] w fun e w' => e = .returned (.tuple #[.int .i64 r, .int .i64 m]) ∧ Below w.heap.size w w' := by
  have := rchar_any l A n c k w hn hm hk hs
  unfold chrV at this
  rw [h] at this
  exact this
theorem own_below {w w' : World} {base : Nat} {e : TypeId} {size n : Nat} {v : Value} {xs : List Value} (h : w.ownsRow base e size v n xs) (hb : Below w.heap.size w w') : w'.ownsRow base e size v n xs :=
  h.kept (row := none) ⟨hb.os, hb.tape, hb.output, hb.size, fun i hi _ => hb.block i hi⟩ (by
    rcases h.2 with ⟨rfl, _⟩ | ⟨g, _, _, rfl, _⟩
    · exact .inl rfl
    · exact .inr (by simp [Value.ownBlock]))

set_option maxRecDepth 100000 in
set_option maxHeartbeats 2000000 in
theorem rrunes_any (A : Option Addr) (len cap : Nat) (l : List UInt8) (hlen : l.length = len) (hsmall : len ≤ 17592186044416) (w : World) (hs : Sees w A (vB l)) :
    Calls Tryd.prog 96 #[.slice A len cap] w fun e W' => RRunesPost l w e W' := by
  have HL := Lib.hid hlen
  have hN := stepsS_len l
  rw [hlen] at hN
  clear hlen
  obtain ⟨i0, hi0, hz0, hz1, hz2⟩ := info_parts int_info
  go_enter Tryd.func96, Tryd.ntmps96
  go_wp2_with fail
  go_loopw [4, 5] (fun v i wr => ∃ k f : Nat, ∃ pre : List Item, k ≤ len ∧ len ≤ k + f ∧ i = .int .i64 k ∧ pre ++ items l f k = stepsS l ∧ (∀ y ∈ pre, y.2.2 = 0) ∧ wr.ownsRow w.heap.size 3 1 v pre.length (nums pre) ∧ Below w.heap.size w wr)
    (fun _ i _ => len - (intOf i).toNat)
  case atStart => exact ⟨0, len, [], by omega, by omega, rfl, by unfold stepsS; rw [HL.out]; rfl, by simp, World.ownsRow_nil _ _ _ _, Below.refl _ _⟩
  case round =>
    obtain ⟨k, f, pre, hk, hf, rfl, hp, hall, hrow, hB⟩ := hrel
    have hpl2 : pre.length ≤ len := by
      have := congrArg List.length hp
      rw [List.length_append] at this
      omega
    have HP := Lib.hid hp
    have HA := Lib.hid hall
    have hsW := hB.size
    obtain ⟨A', cap', rfl⟩ := ownsRow_form hrow
    clear hp hall
    by_cases hlt : k < len
    · obtain ⟨f, rfl⟩ : ∃ g, f = g + 1 := ⟨f - 1, by omega⟩
      have hkl : k < l.length := by rw [HL.out]; exact hlt
      have hsw := hs.below hB
      by_cases hc : (chrAt l k).2 = 0
      · have HD := Lib.hid (rchar_err l A len cap k wr HL.out (by omega) hlt hsw hc)
        have hit := items_bad l f k hkl hc
        have hbad : badS l = some k := by
          have := badS_some (l := l) (pre := pre) (x := (0, k, 5)) (by rw [← HP.out, hit]; exact List.prefix_refl _) HA.out (by simp)
          exact this.1
        have HBD := Lib.hid hbad
        clear hbad hit hc hkl hsw hs
        go_wp2_with (go_at_call 133; refine HD.out.mono ?_; rintro e w1 ⟨rfl, hb1⟩)
        go_ret2
        refine ⟨fun h => absurd h (by rw [HBD.out]; simp), fun j hj => ?_, hB.trans (hb1.mono hsW)⟩
        rw [HBD.out] at hj
        injection hj with hj
        rw [← hj]; rfl
      · obtain ⟨r, m, hrm⟩ : ∃ r m, chrAt l k = (r, m) := ⟨_, _, rfl⟩
        have hroom := chrAt_room l k hkl
        rw [hrm] at hc hroom
        have hit := items_good l f k hkl (by rw [hrm]; exact hc)
        rw [hrm] at hit
        simp only [] at hc hroom hit
        obtain ⟨hm1, hm4⟩ := hroom
        rw [HL.out] at hm1
        have HD := Lib.hid (rchar_ok l A len cap k wr HL.out (by omega) hlt hsw r m hrm)
        have HE := Lib.hid hit
        have hm0 : ((m : Int) == 0) = false := by simp; omega
        have hm2 : 1 ≤ m := by omega
        have hpl3 : pre.length + 1 ≤ len := by
          have := congrArg List.length HP.out
          rw [hit, List.length_append, List.length_cons] at this
          omega
        clear hc hkl hsw hs hit hrm
        go_wp2_with (first
          | (go_at_call 133; refine HD.out.mono ?_; rintro e w1 ⟨rfl, hb1⟩; have hrow1 := own_below hrow hb1; have hB1 := hB.trans (hb1.mono hsW); have hs1 := hB1.size)
          | (at_builtin; refine wpList_append_own _ rfl _ _ 134 rfl w.heap.size 3 i0 (.int .i64 0) 1 8 Tryd.underlying134 hi0 hz0 hz1 hz2 rfl (by decide) (.slice A' pre.length cap') pre.length (nums pre) rfl (hrow1.alloc _) ⟨w1.heap.size, 0, none⟩ 1 1 [.int .i64 r] rfl rfl (cells_new w1 [.int .i64 r] _) (ints_one .i64 [r]) (by unfold maxLen; omega) (by omega) (by simp; omega) ?_; intro v' w2 hown2 hgrow2 _))
        have hB2 : Below w.heap.size w w2 := (hB1.alloc hs1 _).grown hgrow2 (by simp; omega) (fun j hj => (hrow1.lt j hj).1)
        go_roundw
        case rel =>
          refine ⟨k + m, f, pre ++ [(r, k, 0)], by omega, by omega, by go_num, by rw [← HP.out, HE.out]; simp, ?_, ?_, hB2⟩
          · intro y hy
            rcases List.mem_append.1 hy with h | h
            · exact HA.out y h
            · simp at h; subst h; rfl
          · rw [nums_snoc, List.length_append]; exact hown2
        case measure => simp [intOf]; omega
    · have hkk : len ≤ k := by omega
      have HE := Lib.hid (items_end l f k (by rw [HL.out]; exact hkk))
      go_wp2_with fail
      go_ret2
      have hpre : pre = stepsS l := by rw [← HP.out, HE.out, List.append_nil]
      have hbn := badS_none hpre HA.out
      refine ⟨fun _ => ⟨_, rfl, ?_⟩, fun j hj => absurd hj (by rw [hbn]; simp), hB⟩
      have e : (runesS l).map (Value.int .i64) = nums pre := by unfold runesS nums; rw [hpre, List.map_map]; rfl
      have e2 : (runesS l).length = pre.length := by unfold runesS; rw [List.length_map, hpre]
      rw [e, e2]
      exact hrow
end Go.Proofs.YtdmfladcldkmeaaDoor
