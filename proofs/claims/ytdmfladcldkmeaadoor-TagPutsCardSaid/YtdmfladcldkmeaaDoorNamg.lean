/- Names: IsName, IsPlain, IsToken and the document's own Is. -/
import Derived.Test.YtdmfladcldkmeaaDoorNamf
import Derived.Lib.Bytealg
import Derived.Lib.IndexLaws
namespace Go.Proofs.YtdmfladcldkmeaaDoor
open Go.ChangeShapes Go.WideShapes Go.ChangeAt Go.RowKit
set_option linter.unusedVariables false
set_option maxRecDepth 100000

set_option maxHeartbeats 1000000 in
theorem isName_any (l : List UInt8) (w : World) (hl : l.length ≤ 1000000) (ht : TabN w) :
    Calls Tryd.prog 60 #[strV l] w fun e w' => e = .returned (.bool (wholeB l startN charN)) ∧ Below w.heap.size w w' := by
  have HR := Lib.hid (fun (w' : World) (hb : Below w.heap.size w w') => whole_any l w' _ _ _ _ _ _ hl enters_start enters_char (tells_start (ht.below hb) (Nat.le_refl _)) (tells_char (ht.below hb) (Nat.le_refl _)))
  go_enter Tryd.func60, Tryd.ntmps60
  go_wp2_with fail
  refine (names_any w).mono ?_
  rintro e w1 ⟨rfl, hb1⟩
  go_wp2_with fail
  refine (HR.out w1 hb1).mono ?_
  rintro e w2 ⟨rfl, hb2⟩
  go_wp2_with fail
  go_ret
  exact ⟨rfl, hb1.trans (hb2.mono hb1.size)⟩
set_option maxHeartbeats 1000000 in
theorem isPlain_any (l : List UInt8) (w : World) (hl : l.length ≤ 1000000) (ht : TabN w) :
    Calls Tryd.prog 137 #[strV l] w fun e w' => e = .returned (.bool (wholeB l (plainP startN) (plainP charN))) ∧ Below w.heap.size w w' := by
  have HR := Lib.hid (fun (w' : World) (b1 b2 : Nat) (hb : Below w.heap.size w w') (l1 : b1 < w'.heap.size) (l2 : b2 < w'.heap.size) (c1 : w'.cell? ⟨b1, 0, none⟩ = some (fn0 142)) (c2 : w'.cell? ⟨b2, 0, none⟩ = some (fn0 143)) =>
    whole_any l w' _ _ _ _ _ _ hl enters_plain enters_plain (tells_plain enters_start l1 c1 (tells_start (ht.below hb) (Nat.le_refl _))) (tells_plain enters_char l2 c2 (tells_char (ht.below hb) (Nat.le_refl _))))
  go_enter Tryd.func137, Tryd.ntmps137
  go_wp2_with fail
  refine (plains_any w).mono ?_
  rintro e w1 ⟨b1, b2, rfl, l1, l2, c1, c2, hb1⟩
  go_wp2_with fail
  refine (HR.out w1 b1 b2 hb1 l1 l2 c1 c2).mono ?_
  rintro e w2 ⟨rfl, hb2⟩
  go_wp2_with fail
  go_ret
  exact ⟨rfl, hb1.trans (hb2.mono hb1.size)⟩

set_option maxHeartbeats 1000000 in
theorem risB_any (l : List UInt8) (w : World) (pl : Bool) (hl : l.length ≤ 1000000) :
    Calls Tryd.prog 51 #[strV l, .bool pl] w fun e w' => e = .returned (.bool (wholeB l (kindP pl startN) (kindP pl charN))) ∧ Below w.heap.size w w' := by
  by_cases h0 : l = []
  · subst h0
    go_enter Tryd.func51, Tryd.ntmps51
    go_wp2_with fail
    go_ret
    exact ⟨rfl, Below.refl _ _⟩
  · have H := fun (w' : World) (cap : Nat) (A : Option Addr) (hs : Sees w' A (vB l)) => rend_any l A l.length cap 0 w' pl rfl (by omega) (Nat.zero_le _) hs
    have hie : l.isEmpty = false := List.isEmpty_eq_false_iff.2 h0
    have hw : wholeB l (kindP pl startN) (kindP pl charN) = decide (endN l (kindP pl charN) l.length (kindP pl startN) 0 = l.length) := by
      unfold wholeB; rw [List.isEmpty_eq_false_iff.2 h0]; rfl
    rw [hw]
    obtain ⟨z, hz⟩ : ∃ z, endN l (kindP pl charN) l.length (kindP pl startN) 0 = z := ⟨_, rfl⟩
    rw [hz] at H ⊢
    have HH := Lib.hid H
    clear H hw hz
    have kc := fun W => run_bytes_of_string (P := Tryd.prog) W 9 36 5 ⟨l.toArray⟩ Tryd.underlying9 Tryd.underlying36 Tryd.underlying5
    have hB2 := fun o => ((Below.refl w.heap.size w).alloc (Nat.le_refl _) o).drew
    go_enter Tryd.func51, Tryd.ntmps51
    go_wp2_with fail
    refine (HH.out _ _ _ (made_sees _ l _ _ _ _ rfl)).mono ?_
    rintro e w2 ⟨rfl, hb⟩
    go_wp2_with fail
    go_ret
    exact ⟨ret_bool (by rw [Bool.eq_iff_iff]; simp; try omega), (hB2 _).trans (hb.mono (hB2 _).size)⟩

/-- The place of the first colon, or -1. -/
def colI (l : List UInt8) : Int := Lib.indexByte l 58
set_option maxHeartbeats 1000000 in
theorem indexB_any (l : List UInt8) (w : World) :
    Calls Tryd.prog 175 #[strV l, .int .u8 58] w fun e w' => e = .returned (.int .i64 (colI l)) ∧ w = w' := by
  have H := Lib.hid (Lib.run_indexByteString (P := Tryd.prog) ⟨l.toArray⟩ 58 w)
  go_enter Tryd.func175, Tryd.ntmps175
  go_wp2
  rw [run_callFunc_extern Tryd.func190 (by kernel_rfl) (by kernel_rfl) (by kernel_rfl) (e := Extern.BytealgIndexByte.indexByte) (by kernel_rfl), H.out]
  simp only [Result.andThen]
  rw [Oper.upon_value]
  go_wp2
  go_ret
  exact ⟨rfl, rfl⟩
set_option maxHeartbeats 1000000 in
theorem index_any (l : List UInt8) (w : World) :
    Calls Tryd.prog 149 #[strV l, .string ⟨#[58]⟩] w fun e w' => e = .returned (.int .i64 (colI l)) ∧ w = w' := by
  by_cases h : l = [58]
  · subst h
    go_enter Tryd.func149, Tryd.ntmps149
    go_wp2_with (go_at_call 175; refine (indexB_any _ _).mono ?_; rintro e w2 ⟨rfl, rfl⟩)
    all_goals
      go_ret
      exact ⟨rfl, rfl⟩
  · have t : ([58] == l) = false := by rw [beq_eq_false_iff_ne]; exact fun e => h e.symm
    clear h
    go_enter Tryd.func149, Tryd.ntmps149
    go_wp2_with (go_at_call 175; refine (indexB_any l _).mono ?_; rintro e w2 ⟨rfl, rfl⟩)
    go_ret
    exact ⟨rfl, rfl⟩

/-- What Cut tells. -/
def cutV (l : List UInt8) : Value :=
  if colI l < 0 then .tuple #[strV l, .string ⟨#[]⟩, .bool false] else .tuple #[strV (l.take (colI l).toNat), strV (l.drop ((colI l).toNat + 1)), .bool true]
theorem colI_cases (l : List UInt8) : (colI l = -1 ∧ ∀ k : Nat, l[k]? ≠ some 58) ∨ ∃ i : Nat, colI l = i ∧ l[i]? = some 58 ∧ ∀ k < i, l[k]? ≠ some 58 := by
  have h := Lib.indexByte_ge l 58
  by_cases h0 : colI l = -1
  · exact .inl ⟨h0, Lib.indexByte_none h0⟩
  · obtain ⟨i, hi⟩ : ∃ i : Nat, colI l = i := ⟨(colI l).toNat, by unfold colI at h0 ⊢; omega⟩
    exact .inr ⟨i, hi, Lib.indexByte_some hi⟩
theorem colI_lt (l : List UInt8) : colI l < 0 ∨ ∃ i : Nat, colI l = i ∧ i < l.length := by
  rcases colI_cases l with ⟨h, _⟩ | ⟨i, h, h1, _⟩
  · exact .inl (by omega)
  · exact .inr ⟨i, h, (List.getElem?_eq_some_iff.1 h1).1⟩
theorem str_extract (l : List UInt8) (a b : Nat) : (⟨l.toArray⟩ : ByteArray).extract a b = ⟨((l.drop a).take (b - a)).toArray⟩ := by
  apply ByteArray.ext
  rw [ByteArray.data_extract]
  simp [List.extract_eq_take_drop]
theorem ret_cut {a b c d : ByteArray} {p : Bool} (h1 : a = c) (h2 : b = d) : Ending.returned (.tuple #[.string a, .string b, .bool p]) = .returned (.tuple #[.string c, .string d, .bool p]) := by rw [h1, h2]
set_option maxHeartbeats 1000000 in
theorem cutL_any (l : List UInt8) (w : World) (hl : l.length ≤ 1000000) :
    Calls Tryd.prog 161 #[strV l, .string ⟨#[58]⟩] w fun e w' => e = .returned (cutV l) ∧ Below w.heap.size w w' := by
  unfold cutV
  rcases colI_lt l with h | ⟨i, h, hi⟩
  · rw [if_pos h]
    have H := Lib.hid (index_any l w)
    obtain ⟨z, hz⟩ : ∃ z, colI l = z := ⟨_, rfl⟩
    rw [hz] at H h
    clear hz
    go_enter Tryd.func161, Tryd.ntmps161
    go_wp2_with fail
    refine H.out.mono ?_
    rintro e w1 ⟨rfl, rfl⟩
    go_wp2_with fail
    go_ret3
    exact ⟨rfl, Below.refl _ _⟩
  · rw [if_neg (by omega)]
    have H := Lib.hid (index_any l w)
    rw [h] at H ⊢
    rw [Int.toNat_natCast]
    clear h
    go_enter Tryd.func161, Tryd.ntmps161
    go_wp2_with fail
    refine H.out.mono ?_
    rintro e w1 ⟨rfl, rfl⟩
    go_wp2_with fail
    go_quiet (fail)
    go_wp2_with fail
    go_ret3
    exact ⟨ret_cut (by rw [str_extract]; simp) (by rw [str_extract, ← List.length_drop, List.take_length]), below_drw (Below.refl _ _) _⟩

set_option maxHeartbeats 1000000 in
theorem cut_any (l : List UInt8) (w : World) (hl : l.length ≤ 1000000) :
    Calls Tryd.prog 136 #[strV l, .string ⟨#[58]⟩] w fun e w' => e = .returned (cutV l) ∧ Below w.heap.size w w' := by
  have H := Lib.hid (cutL_any l w hl)
  have HV : ∃ x y z, cutV l = .tuple #[x, y, z] := by
    unfold cutV; split <;> exact ⟨_, _, _, rfl⟩
  obtain ⟨x, y, z, hv⟩ := HV
  rw [hv] at H ⊢
  clear hv
  go_enter Tryd.func136, Tryd.ntmps136
  go_wp2_with fail
  refine H.out.mono ?_
  rintro e w1 ⟨rfl, hb⟩
  go_wp2_with fail
  go_ret3
  exact ⟨rfl, hb⟩
end Go.Proofs.YtdmfladcldkmeaaDoor
