/- External identifiers as they are written: by the program and by the document. External identifiers as they are written, by the program and by the document: each way. Names: the page's example; the walk of NameReads. Names: tokens and the document's own All; the walk of NameParts. External identifiers as they are written: what is put is read as itself (pure). -/
import Derived.Lib.BufferRead
import Derived.Lib.SlBytesConst
import Derived.Test.YtdmfladcldkmeaaDoorPkam
import Derived.Test.YtdmfladcldkmeaaDoorPkao
import Derived.Test.YtdmfladcldkmeaaDoorPkar
namespace Go.Proofs.YtdmfladcldkmeaaDoor
open Go.ChangeShapes Go.WideShapes Go.ChangeAt Go.RowKit
set_option linter.unusedVariables false
set_option maxRecDepth 100000

def qHas (s : List UInt8) (b : Nat) : Bool := decide (0 ≤ Lib.indexByte s (UInt8.ofNat b))
theorem index34_any (l : List UInt8) (w : World) : Calls Tryd.prog 149 #[strV l, .string ⟨#[34]⟩] w fun e w' => e = .returned (.int .i64 (Lib.indexByte l 34)) ∧ w = w' := by
  by_cases h : l = [34]
  · subst h
    go_enter Tryd.func149, Tryd.ntmps149
    go_wp2_with (go_at_call 175; refine (slIndex_any _ 34 _).mono ?_; rintro e w2 ⟨rfl, rfl⟩)
    all_goals
      go_ret
      exact ⟨rfl, rfl⟩
  · have t : ([34] == l) = false := by rw [beq_eq_false_iff_ne]; exact fun e => h e.symm
    clear h
    go_enter Tryd.func149, Tryd.ntmps149
    go_wp2_with (go_at_call 175; refine (slIndex_any l 34 _).mono ?_; rintro e w2 ⟨rfl, rfl⟩)
    go_ret
    exact ⟨rfl, rfl⟩
theorem index39_any (l : List UInt8) (w : World) : Calls Tryd.prog 149 #[strV l, .string ⟨#[39]⟩] w fun e w' => e = .returned (.int .i64 (Lib.indexByte l 39)) ∧ w = w' := by
  by_cases h : l = [39]
  · subst h
    go_enter Tryd.func149, Tryd.ntmps149
    go_wp2_with (go_at_call 175; refine (slIndex_any _ 39 _).mono ?_; rintro e w2 ⟨rfl, rfl⟩)
    all_goals
      go_ret
      exact ⟨rfl, rfl⟩
  · have t : ([39] == l) = false := by rw [beq_eq_false_iff_ne]; exact fun e => h e.symm
    clear h
    go_enter Tryd.func149, Tryd.ntmps149
    go_wp2_with (go_at_call 175; refine (slIndex_any l 39 _).mono ?_; rintro e w2 ⟨rfl, rfl⟩)
    go_ret
    exact ⟨rfl, rfl⟩
theorem contains_of (l m : List UInt8) (z : Int) (w : World) (H : Calls Tryd.prog 149 #[strV l, strV m] w fun e w' => e = .returned (.int .i64 z) ∧ w = w') :
    Calls Tryd.prog 82 #[strV l, strV m] w fun e w' => e = .returned (.bool (decide (0 ≤ z))) ∧ w = w' := by
  have K := Lib.hid H
  have KI : Calls Tryd.prog 117 #[strV l, strV m] w fun e w' => e = .returned (.int .i64 z) ∧ w = w' := by
    clear H
    go_enter Tryd.func117, Tryd.ntmps117
    go_wp2_with fail
    refine K.out.mono ?_
    rintro e w1 ⟨rfl, rfl⟩
    go_wp2_with fail
    go_ret
    exact ⟨rfl, rfl⟩
  have K2 := Lib.hid KI
  clear H KI K
  go_enter Tryd.func82, Tryd.ntmps82
  go_wp2_with fail
  refine K2.out.mono ?_
  rintro e w1 ⟨rfl, rfl⟩
  go_wp2_with fail
  go_ret
  exact ⟨rfl, rfl⟩
theorem has34 (l : List UInt8) (w : World) : Calls Tryd.prog 82 #[strV l, strV [34]] w fun e w' => e = .returned (.bool (qHas l 34)) ∧ w = w' := contains_of l [34] _ w (index34_any l w)
theorem has39 (l : List UInt8) (w : World) : Calls Tryd.prog 82 #[strV l, strV [39]] w fun e w' => e = .returned (.bool (qHas l 39)) ∧ w = w' := contains_of l [39] _ w (index39_any l w)
/-- The quote, what stands ahead, and the whole. -/
def quoB (s : List UInt8) : UInt8 := if qHas s 34 then 39 else 34
def okX (p s : List UInt8) : Bool := pubB p && !(qHas s 34 && qHas s 39)
def begB (p : List UInt8) : List UInt8 := if p = [] then [83, 89, 83, 84, 69, 77, 32] else [80, 85, 66, 76, 73, 67, 32, 34] ++ p ++ [34, 32]
def putX (p s : List UInt8) : List UInt8 := begB p ++ [quoB s] ++ s ++ [quoB s]
end Go.Proofs.YtdmfladcldkmeaaDoor
namespace Go.Proofs.YtdmfladcldkmeaaDoor
open Go.ChangeShapes Go.WideShapes Go.ChangeAt Go.RowKit
set_option linter.unusedVariables false
set_option maxRecDepth 100000

theorem ret_put2 {a b : ByteArray} {v : Value} (h : a = b) : Ending.returned (.tuple #[.string a, v]) = .returned (.tuple #[.string b, v]) := by rw [h]
theorem join_sys (q : UInt8) (s : List UInt8) : (⟨#[83, 89, 83, 84, 69, 77, 32]⟩ : ByteArray) ++ ⟨#[q]⟩ ++ ⟨s.toArray⟩ ++ ⟨#[q]⟩ = ⟨([83, 89, 83, 84, 69, 77, 32] ++ [q] ++ s ++ [q]).toArray⟩ := by
  show (⟨([83, 89, 83, 84, 69, 77, 32] : List UInt8).toArray⟩ : ByteArray) ++ ⟨([q] : List UInt8).toArray⟩ ++ ⟨s.toArray⟩ ++ ⟨([q] : List UInt8).toArray⟩ = _
  rw [str_app, str_app, str_app]
theorem join_pub (q : UInt8) (p s : List UInt8) : (⟨#[80, 85, 66, 76, 73, 67, 32, 34]⟩ : ByteArray) ++ ⟨p.toArray⟩ ++ ⟨#[34, 32]⟩ ++ ⟨#[q]⟩ ++ ⟨s.toArray⟩ ++ ⟨#[q]⟩ = ⟨(([80, 85, 66, 76, 73, 67, 32, 34] ++ p ++ [34, 32]) ++ [q] ++ s ++ [q]).toArray⟩ := by
  show (⟨([80, 85, 66, 76, 73, 67, 32, 34] : List UInt8).toArray⟩ : ByteArray) ++ ⟨p.toArray⟩ ++ ⟨([34, 32] : List UInt8).toArray⟩ ++ ⟨([q] : List UInt8).toArray⟩ ++ ⟨s.toArray⟩ ++ ⟨([q] : List UInt8).toArray⟩ = _
  rw [str_app, str_app, str_app, str_app, str_app]

set_option maxHeartbeats 4000000 in
theorem xput_0000 (p s : List UInt8) (w : World) (h8 : p.length ≤ 300) (h9 : s.length ≤ 300) (ht : TabP w) (h34 : qHas s 34 = false) (hp : pubB p = false) :
    Calls Tryd.prog 36 #[.agg #[strV p, strV s]] w fun e w' => e = .returned (.tuple #[.string ⟨#[]⟩, .int .i64 7]) ∧ Below w.heap.size w w' := by
  have B0 := (Below.refl w.heap.size w).alloc (Nat.le_refl _) (.cells #[strV p, strV s] 59)
  obtain ⟨WA, hWA⟩ : ∃ WA, w.alloc (.cells #[strV p, strV s] 59) = WA := ⟨_, rfl⟩
  have T0 := Lib.hid (show Two WA w.heap.size (strV p) (strV s) 59 from hWA ▸ Two.new w (strV p) (strV s) 59 _ rfl)
  rw [hWA] at B0
  have HB0 := Lib.hid B0
  have HWA := Lib.hid hWA
  have K34 := Lib.hid (fun (w' : World) => h34 ▸ has34 s w')
  obtain ⟨B, cap, W1, hrun, hc1, hc2, hb1, hBl, hBw, hs1⟩ := bytes_made p WA (by omega)
  have hB1 := HB0.out.trans (hb1.mono HB0.out.size)
  have KP := Lib.hid (hp ▸ pubAll_anyP p (some ⟨B, 0, none⟩) p.length cap W1 rfl hc1 hc2 (by omega) hs1 (ht.below hB1))
  have HB1 := Lib.hid hB1
  have T1 := Lib.hid (T0.out.below hb1)
  clear ht hb1 hB1 hs1 B0 hWA h34 hp
  obtain ⟨x0, x1, _, _⟩ := T0.out.at
  go_enter Tryd.func36, Tryd.ntmps36
  go_wp2_with fail
  rw [HWA.out]
  clear HWA
  refine (K34.out WA).mono ?_
  rintro e w2 ⟨rfl, rfl⟩
  go_wp2_with fail
  clear x0 x1
  refine KP.out.mono ?_
  rintro e w3 ⟨rfl, hb3⟩
  have HB3 := Lib.hid (HB1.out.trans (hb3.mono HB1.out.size))
  have T3 := Lib.hid (T1.out.below hb3)
  clear hb3
  obtain ⟨x0, x1, _, _⟩ := T3.out.at
  go_wp2_with fail
  go_ret2
  exact ⟨rfl, HB3.out⟩

set_option maxHeartbeats 4000000 in
theorem xput_1000 (p s : List UInt8) (w : World) (h8 : p.length ≤ 300) (h9 : s.length ≤ 300) (ht : TabP w) (h34 : qHas s 34 = true) (hp : pubB p = false) :
    Calls Tryd.prog 36 #[.agg #[strV p, strV s]] w fun e w' => e = .returned (.tuple #[.string ⟨#[]⟩, .int .i64 7]) ∧ Below w.heap.size w w' := by
  have B0 := (Below.refl w.heap.size w).alloc (Nat.le_refl _) (.cells #[strV p, strV s] 59)
  obtain ⟨WA, hWA⟩ : ∃ WA, w.alloc (.cells #[strV p, strV s] 59) = WA := ⟨_, rfl⟩
  have T0 := Lib.hid (show Two WA w.heap.size (strV p) (strV s) 59 from hWA ▸ Two.new w (strV p) (strV s) 59 _ rfl)
  rw [hWA] at B0
  have HB0 := Lib.hid B0
  have HWA := Lib.hid hWA
  have K34 := Lib.hid (fun (w' : World) => h34 ▸ has34 s w')
  obtain ⟨B, cap, W1, hrun, hc1, hc2, hb1, hBl, hBw, hs1⟩ := bytes_made p WA (by omega)
  have hB1 := HB0.out.trans (hb1.mono HB0.out.size)
  have KP := Lib.hid (hp ▸ pubAll_anyP p (some ⟨B, 0, none⟩) p.length cap W1 rfl hc1 hc2 (by omega) hs1 (ht.below hB1))
  have HB1 := Lib.hid hB1
  have T1 := Lib.hid (T0.out.below hb1)
  clear ht hb1 hB1 hs1 B0 hWA h34 hp
  obtain ⟨x0, x1, _, _⟩ := T0.out.at
  go_enter Tryd.func36, Tryd.ntmps36
  go_wp2_with fail
  rw [HWA.out]
  clear HWA
  refine (K34.out WA).mono ?_
  rintro e w2 ⟨rfl, rfl⟩
  go_wp2_with fail
  clear x0 x1
  refine KP.out.mono ?_
  rintro e w3 ⟨rfl, hb3⟩
  have HB3 := Lib.hid (HB1.out.trans (hb3.mono HB1.out.size))
  have T3 := Lib.hid (T1.out.below hb3)
  clear hb3
  obtain ⟨x0, x1, _, _⟩ := T3.out.at
  go_wp2_with fail
  go_ret2
  exact ⟨rfl, HB3.out⟩

set_option maxHeartbeats 4000000 in
theorem xput_1110 (p s : List UInt8) (w : World) (h8 : p.length ≤ 300) (h9 : s.length ≤ 300) (ht : TabP w) (h34 : qHas s 34 = true) (hp : pubB p = true) (h39 : qHas s 39 = true) :
    Calls Tryd.prog 36 #[.agg #[strV p, strV s]] w fun e w' => e = .returned (.tuple #[.string ⟨#[]⟩, .int .i64 7]) ∧ Below w.heap.size w w' := by
  have B0 := (Below.refl w.heap.size w).alloc (Nat.le_refl _) (.cells #[strV p, strV s] 59)
  obtain ⟨WA, hWA⟩ : ∃ WA, w.alloc (.cells #[strV p, strV s] 59) = WA := ⟨_, rfl⟩
  have T0 := Lib.hid (show Two WA w.heap.size (strV p) (strV s) 59 from hWA ▸ Two.new w (strV p) (strV s) 59 _ rfl)
  rw [hWA] at B0
  have HB0 := Lib.hid B0
  have HWA := Lib.hid hWA
  have K34 := Lib.hid (fun (w' : World) => h34 ▸ has34 s w')
  have K39 := Lib.hid (fun (w' : World) => h39 ▸ has39 s w')
  obtain ⟨B, cap, W1, hrun, hc1, hc2, hb1, hBl, hBw, hs1⟩ := bytes_made p WA (by omega)
  have hB1 := HB0.out.trans (hb1.mono HB0.out.size)
  have KP := Lib.hid (hp ▸ pubAll_anyP p (some ⟨B, 0, none⟩) p.length cap W1 rfl hc1 hc2 (by omega) hs1 (ht.below hB1))
  have HB1 := Lib.hid hB1
  have T1 := Lib.hid (T0.out.below hb1)
  clear ht hb1 hB1 hs1 B0 hWA h34 hp h39
  obtain ⟨x0, x1, _, _⟩ := T0.out.at
  go_enter Tryd.func36, Tryd.ntmps36
  go_wp2_with fail
  rw [HWA.out]
  clear HWA
  refine (K34.out WA).mono ?_
  rintro e w2 ⟨rfl, rfl⟩
  go_wp2_with fail
  clear x0 x1
  refine KP.out.mono ?_
  rintro e w3 ⟨rfl, hb3⟩
  have HB3 := Lib.hid (HB1.out.trans (hb3.mono HB1.out.size))
  have T3 := Lib.hid (T1.out.below hb3)
  clear hb3
  obtain ⟨x0, x1, _, _⟩ := T3.out.at
  go_wp2_with fail
  refine (K39.out w3).mono ?_
  rintro e w4 ⟨rfl, rfl⟩
  go_wp2_with fail
  go_ret2
  exact ⟨rfl, HB3.out⟩

set_option maxHeartbeats 4000000 in
theorem xput_0101 (p s : List UInt8) (w : World) (h8 : p.length ≤ 300) (h9 : s.length ≤ 300) (ht : TabP w) (h34 : qHas s 34 = false) (hp : pubB p = true) (he : p = []) :
    Calls Tryd.prog 36 #[.agg #[strV p, strV s]] w fun e w' => e = .returned (.tuple #[strV ([83, 89, 83, 84, 69, 77, 32] ++ [34] ++ s ++ [34]), .int .i64 0]) ∧ Below w.heap.size w w' := by
  have B0 := (Below.refl w.heap.size w).alloc (Nat.le_refl _) (.cells #[strV p, strV s] 59)
  obtain ⟨WA, hWA⟩ : ∃ WA, w.alloc (.cells #[strV p, strV s] 59) = WA := ⟨_, rfl⟩
  have T0 := Lib.hid (show Two WA w.heap.size (strV p) (strV s) 59 from hWA ▸ Two.new w (strV p) (strV s) 59 _ rfl)
  rw [hWA] at B0
  have HB0 := Lib.hid B0
  have HWA := Lib.hid hWA
  have K34 := Lib.hid (fun (w' : World) => h34 ▸ has34 s w')
  obtain ⟨B, cap, W1, hrun, hc1, hc2, hb1, hBl, hBw, hs1⟩ := bytes_made p WA (by omega)
  have hB1 := HB0.out.trans (hb1.mono HB0.out.size)
  have KP := Lib.hid (hp ▸ pubAll_anyP p (some ⟨B, 0, none⟩) p.length cap W1 rfl hc1 hc2 (by omega) hs1 (ht.below hB1))
  have HB1 := Lib.hid hB1
  have T1 := Lib.hid (T0.out.below hb1)
  have eX : ∀ w, (binOp .eql 59 (.agg #[.string ⟨p.toArray⟩, .string ⟨s.toArray⟩]) (.agg #[.string ⟨#[]⟩, .string ⟨s.toArray⟩])).run Tryd.prog w = .ok (.bool true) w := fun w => by subst he; simp [go_sem]
  have z1 := str_size p
  have z2 := str_size s
  clear ht hb1 hB1 hs1 B0 hWA h34 hp he
  obtain ⟨x0, x1, _, _⟩ := T0.out.at
  go_enter Tryd.func36, Tryd.ntmps36
  go_wp2_with fail
  rw [HWA.out]
  clear HWA
  refine (K34.out WA).mono ?_
  rintro e w2 ⟨rfl, rfl⟩
  go_wp2_with fail
  clear x0 x1
  refine KP.out.mono ?_
  rintro e w3 ⟨rfl, hb3⟩
  have HB3 := Lib.hid (HB1.out.trans (hb3.mono HB1.out.size))
  have T3 := Lib.hid (T1.out.below hb3)
  clear hb3
  obtain ⟨x0, x1, _, _⟩ := T3.out.at
  go_wp2_with fail
  refine (K34.out w3).mono ?_
  rintro e w4 ⟨rfl, rfl⟩
  go_wp2_with fail
  go_ret2
  exact ⟨ret_put2 (join_sys 34 s), HB3.out⟩

set_option maxHeartbeats 4000000 in
theorem xput_0100 (p s : List UInt8) (w : World) (h8 : p.length ≤ 300) (h9 : s.length ≤ 300) (ht : TabP w) (h34 : qHas s 34 = false) (hp : pubB p = true) (he : p ≠ []) :
    Calls Tryd.prog 36 #[.agg #[strV p, strV s]] w fun e w' => e = .returned (.tuple #[strV (([80, 85, 66, 76, 73, 67, 32, 34] ++ p ++ [34, 32]) ++ [34] ++ s ++ [34]), .int .i64 0]) ∧ Below w.heap.size w w' := by
  have B0 := (Below.refl w.heap.size w).alloc (Nat.le_refl _) (.cells #[strV p, strV s] 59)
  obtain ⟨WA, hWA⟩ : ∃ WA, w.alloc (.cells #[strV p, strV s] 59) = WA := ⟨_, rfl⟩
  have T0 := Lib.hid (show Two WA w.heap.size (strV p) (strV s) 59 from hWA ▸ Two.new w (strV p) (strV s) 59 _ rfl)
  rw [hWA] at B0
  have HB0 := Lib.hid B0
  have HWA := Lib.hid hWA
  have K34 := Lib.hid (fun (w' : World) => h34 ▸ has34 s w')
  obtain ⟨B, cap, W1, hrun, hc1, hc2, hb1, hBl, hBw, hs1⟩ := bytes_made p WA (by omega)
  have hB1 := HB0.out.trans (hb1.mono HB0.out.size)
  have KP := Lib.hid (hp ▸ pubAll_anyP p (some ⟨B, 0, none⟩) p.length cap W1 rfl hc1 hc2 (by omega) hs1 (ht.below hB1))
  have HB1 := Lib.hid hB1
  have T1 := Lib.hid (T0.out.below hb1)
  have eX : ∀ w, (binOp .eql 59 (.agg #[.string ⟨p.toArray⟩, .string ⟨s.toArray⟩]) (.agg #[.string ⟨#[]⟩, .string ⟨s.toArray⟩])).run Tryd.prog w = .ok (.bool false) w := fun w => by simp [go_sem, he]
  have z1 := str_size p
  have z2 := str_size s
  clear ht hb1 hB1 hs1 B0 hWA h34 hp he
  obtain ⟨x0, x1, _, _⟩ := T0.out.at
  go_enter Tryd.func36, Tryd.ntmps36
  go_wp2_with fail
  rw [HWA.out]
  clear HWA
  refine (K34.out WA).mono ?_
  rintro e w2 ⟨rfl, rfl⟩
  go_wp2_with fail
  clear x0 x1
  refine KP.out.mono ?_
  rintro e w3 ⟨rfl, hb3⟩
  have HB3 := Lib.hid (HB1.out.trans (hb3.mono HB1.out.size))
  have T3 := Lib.hid (T1.out.below hb3)
  clear hb3
  obtain ⟨x0, x1, _, _⟩ := T3.out.at
  go_wp2_with fail
  refine (K34.out w3).mono ?_
  rintro e w4 ⟨rfl, rfl⟩
  go_wp2_with fail
  go_ret2
  exact ⟨ret_put2 (join_pub 34 p s), HB3.out⟩

set_option maxHeartbeats 4000000 in
theorem xput_1101 (p s : List UInt8) (w : World) (h8 : p.length ≤ 300) (h9 : s.length ≤ 300) (ht : TabP w) (h34 : qHas s 34 = true) (hp : pubB p = true) (h39 : qHas s 39 = false) (he : p = []) :
    Calls Tryd.prog 36 #[.agg #[strV p, strV s]] w fun e w' => e = .returned (.tuple #[strV ([83, 89, 83, 84, 69, 77, 32] ++ [39] ++ s ++ [39]), .int .i64 0]) ∧ Below w.heap.size w w' := by
  have B0 := (Below.refl w.heap.size w).alloc (Nat.le_refl _) (.cells #[strV p, strV s] 59)
  obtain ⟨WA, hWA⟩ : ∃ WA, w.alloc (.cells #[strV p, strV s] 59) = WA := ⟨_, rfl⟩
  have T0 := Lib.hid (show Two WA w.heap.size (strV p) (strV s) 59 from hWA ▸ Two.new w (strV p) (strV s) 59 _ rfl)
  rw [hWA] at B0
  have HB0 := Lib.hid B0
  have HWA := Lib.hid hWA
  have K34 := Lib.hid (fun (w' : World) => h34 ▸ has34 s w')
  have K39 := Lib.hid (fun (w' : World) => h39 ▸ has39 s w')
  obtain ⟨B, cap, W1, hrun, hc1, hc2, hb1, hBl, hBw, hs1⟩ := bytes_made p WA (by omega)
  have hB1 := HB0.out.trans (hb1.mono HB0.out.size)
  have KP := Lib.hid (hp ▸ pubAll_anyP p (some ⟨B, 0, none⟩) p.length cap W1 rfl hc1 hc2 (by omega) hs1 (ht.below hB1))
  have HB1 := Lib.hid hB1
  have T1 := Lib.hid (T0.out.below hb1)
  have eX : ∀ w, (binOp .eql 59 (.agg #[.string ⟨p.toArray⟩, .string ⟨s.toArray⟩]) (.agg #[.string ⟨#[]⟩, .string ⟨s.toArray⟩])).run Tryd.prog w = .ok (.bool true) w := fun w => by subst he; simp [go_sem]
  have z1 := str_size p
  have z2 := str_size s
  clear ht hb1 hB1 hs1 B0 hWA h34 hp h39 he
  obtain ⟨x0, x1, _, _⟩ := T0.out.at
  go_enter Tryd.func36, Tryd.ntmps36
  go_wp2_with fail
  rw [HWA.out]
  clear HWA
  refine (K34.out WA).mono ?_
  rintro e w2 ⟨rfl, rfl⟩
  go_wp2_with fail
  clear x0 x1
  refine KP.out.mono ?_
  rintro e w3 ⟨rfl, hb3⟩
  have HB3 := Lib.hid (HB1.out.trans (hb3.mono HB1.out.size))
  have T3 := Lib.hid (T1.out.below hb3)
  clear hb3
  obtain ⟨x0, x1, _, _⟩ := T3.out.at
  go_wp2_with fail
  refine (K39.out w3).mono ?_
  rintro e w4 ⟨rfl, rfl⟩
  go_wp2_with fail
  go_ret2
  exact ⟨ret_put2 (join_sys 39 s), HB3.out⟩

set_option maxHeartbeats 4000000 in
theorem xput_1100 (p s : List UInt8) (w : World) (h8 : p.length ≤ 300) (h9 : s.length ≤ 300) (ht : TabP w) (h34 : qHas s 34 = true) (hp : pubB p = true) (h39 : qHas s 39 = false) (he : p ≠ []) :
    Calls Tryd.prog 36 #[.agg #[strV p, strV s]] w fun e w' => e = .returned (.tuple #[strV (([80, 85, 66, 76, 73, 67, 32, 34] ++ p ++ [34, 32]) ++ [39] ++ s ++ [39]), .int .i64 0]) ∧ Below w.heap.size w w' := by
  have B0 := (Below.refl w.heap.size w).alloc (Nat.le_refl _) (.cells #[strV p, strV s] 59)
  obtain ⟨WA, hWA⟩ : ∃ WA, w.alloc (.cells #[strV p, strV s] 59) = WA := ⟨_, rfl⟩
  have T0 := Lib.hid (show Two WA w.heap.size (strV p) (strV s) 59 from hWA ▸ Two.new w (strV p) (strV s) 59 _ rfl)
  rw [hWA] at B0
  have HB0 := Lib.hid B0
  have HWA := Lib.hid hWA
  have K34 := Lib.hid (fun (w' : World) => h34 ▸ has34 s w')
  have K39 := Lib.hid (fun (w' : World) => h39 ▸ has39 s w')
  obtain ⟨B, cap, W1, hrun, hc1, hc2, hb1, hBl, hBw, hs1⟩ := bytes_made p WA (by omega)
  have hB1 := HB0.out.trans (hb1.mono HB0.out.size)
  have KP := Lib.hid (hp ▸ pubAll_anyP p (some ⟨B, 0, none⟩) p.length cap W1 rfl hc1 hc2 (by omega) hs1 (ht.below hB1))
  have HB1 := Lib.hid hB1
  have T1 := Lib.hid (T0.out.below hb1)
  have eX : ∀ w, (binOp .eql 59 (.agg #[.string ⟨p.toArray⟩, .string ⟨s.toArray⟩]) (.agg #[.string ⟨#[]⟩, .string ⟨s.toArray⟩])).run Tryd.prog w = .ok (.bool false) w := fun w => by simp [go_sem, he]
  have z1 := str_size p
  have z2 := str_size s
  clear ht hb1 hB1 hs1 B0 hWA h34 hp h39 he
  obtain ⟨x0, x1, _, _⟩ := T0.out.at
  go_enter Tryd.func36, Tryd.ntmps36
  go_wp2_with fail
  rw [HWA.out]
  clear HWA
  refine (K34.out WA).mono ?_
  rintro e w2 ⟨rfl, rfl⟩
  go_wp2_with fail
  clear x0 x1
  refine KP.out.mono ?_
  rintro e w3 ⟨rfl, hb3⟩
  have HB3 := Lib.hid (HB1.out.trans (hb3.mono HB1.out.size))
  have T3 := Lib.hid (T1.out.below hb3)
  clear hb3
  obtain ⟨x0, x1, _, _⟩ := T3.out.at
  go_wp2_with fail
  refine (K39.out w3).mono ?_
  rintro e w4 ⟨rfl, rfl⟩
  go_wp2_with fail
  go_ret2
  exact ⟨ret_put2 (join_pub 39 p s), HB3.out⟩

set_option maxHeartbeats 4000000 in
theorem rput_0000 (p s : List UInt8) (w : World) (h8 : p.length ≤ 300) (h9 : s.length ≤ 300) (ht : TabP w) (h34 : qHas s 34 = false) (hp : pubB p = false) :
    Calls Tryd.prog 37 #[.agg #[strV p, strV s]] w fun e w' => e = .returned (.tuple #[.string ⟨#[]⟩, .bool false]) ∧ Below w.heap.size w w' := by
  have B0 := (Below.refl w.heap.size w).alloc (Nat.le_refl _) (.cells #[strV p, strV s] 59)
  obtain ⟨WA, hWA⟩ : ∃ WA, w.alloc (.cells #[strV p, strV s] 59) = WA := ⟨_, rfl⟩
  have T0 := Lib.hid (show Two WA w.heap.size (strV p) (strV s) 59 from hWA ▸ Two.new w (strV p) (strV s) 59 _ rfl)
  rw [hWA] at B0
  have HB0 := Lib.hid B0
  have HWA := Lib.hid hWA
  have K34 := Lib.hid (fun (w' : World) => (show Calls Tryd.prog 46 #[strV s, .int .u8 34] w' fun e w'' => e = .returned (.bool (qHas s 34)) ∧ w' = w'' from rhas_any s 34 w' (by omega) (by omega)))
  rw [h34] at K34
  obtain ⟨B, cap, W1, hrun, hc1, hc2, hb1, hBl, hBw, hs1⟩ := bytes_made p WA (by omega)
  have hB1 := HB0.out.trans (hb1.mono HB0.out.size)
  have KP := Lib.hid (hp ▸ rpubAll_any p (some ⟨B, 0, none⟩) p.length cap W1 rfl (by omega) hs1)
  have HB1 := Lib.hid hB1
  have T1 := Lib.hid (T0.out.below hb1)
  clear ht hb1 hB1 hs1 B0 hWA h34 hp
  obtain ⟨x0, x1, _, _⟩ := T0.out.at
  go_enter Tryd.func37, Tryd.ntmps37
  go_wp2_with fail
  rw [HWA.out]
  clear HWA
  refine (K34.out WA).mono ?_
  rintro e w2 ⟨rfl, rfl⟩
  go_wp2_with fail
  clear x0 x1
  refine KP.out.mono ?_
  rintro e w3 ⟨rfl, hb3⟩
  have HB3 := Lib.hid (HB1.out.trans (hb3.mono HB1.out.size))
  have T3 := Lib.hid (T1.out.below hb3)
  clear hb3
  obtain ⟨x0, x1, _, _⟩ := T3.out.at
  go_wp2_with fail
  go_ret2
  exact ⟨rfl, HB3.out⟩

set_option maxHeartbeats 4000000 in
theorem rput_1000 (p s : List UInt8) (w : World) (h8 : p.length ≤ 300) (h9 : s.length ≤ 300) (ht : TabP w) (h34 : qHas s 34 = true) (hp : pubB p = false) :
    Calls Tryd.prog 37 #[.agg #[strV p, strV s]] w fun e w' => e = .returned (.tuple #[.string ⟨#[]⟩, .bool false]) ∧ Below w.heap.size w w' := by
  have B0 := (Below.refl w.heap.size w).alloc (Nat.le_refl _) (.cells #[strV p, strV s] 59)
  obtain ⟨WA, hWA⟩ : ∃ WA, w.alloc (.cells #[strV p, strV s] 59) = WA := ⟨_, rfl⟩
  have T0 := Lib.hid (show Two WA w.heap.size (strV p) (strV s) 59 from hWA ▸ Two.new w (strV p) (strV s) 59 _ rfl)
  rw [hWA] at B0
  have HB0 := Lib.hid B0
  have HWA := Lib.hid hWA
  have K34 := Lib.hid (fun (w' : World) => (show Calls Tryd.prog 46 #[strV s, .int .u8 34] w' fun e w'' => e = .returned (.bool (qHas s 34)) ∧ w' = w'' from rhas_any s 34 w' (by omega) (by omega)))
  rw [h34] at K34
  obtain ⟨B, cap, W1, hrun, hc1, hc2, hb1, hBl, hBw, hs1⟩ := bytes_made p WA (by omega)
  have hB1 := HB0.out.trans (hb1.mono HB0.out.size)
  have KP := Lib.hid (hp ▸ rpubAll_any p (some ⟨B, 0, none⟩) p.length cap W1 rfl (by omega) hs1)
  have HB1 := Lib.hid hB1
  have T1 := Lib.hid (T0.out.below hb1)
  clear ht hb1 hB1 hs1 B0 hWA h34 hp
  obtain ⟨x0, x1, _, _⟩ := T0.out.at
  go_enter Tryd.func37, Tryd.ntmps37
  go_wp2_with fail
  rw [HWA.out]
  clear HWA
  refine (K34.out WA).mono ?_
  rintro e w2 ⟨rfl, rfl⟩
  go_wp2_with fail
  clear x0 x1
  refine KP.out.mono ?_
  rintro e w3 ⟨rfl, hb3⟩
  have HB3 := Lib.hid (HB1.out.trans (hb3.mono HB1.out.size))
  have T3 := Lib.hid (T1.out.below hb3)
  clear hb3
  obtain ⟨x0, x1, _, _⟩ := T3.out.at
  go_wp2_with fail
  go_ret2
  exact ⟨rfl, HB3.out⟩

set_option maxHeartbeats 4000000 in
theorem rput_1110 (p s : List UInt8) (w : World) (h8 : p.length ≤ 300) (h9 : s.length ≤ 300) (ht : TabP w) (h34 : qHas s 34 = true) (hp : pubB p = true) (h39 : qHas s 39 = true) :
    Calls Tryd.prog 37 #[.agg #[strV p, strV s]] w fun e w' => e = .returned (.tuple #[.string ⟨#[]⟩, .bool false]) ∧ Below w.heap.size w w' := by
  have B0 := (Below.refl w.heap.size w).alloc (Nat.le_refl _) (.cells #[strV p, strV s] 59)
  obtain ⟨WA, hWA⟩ : ∃ WA, w.alloc (.cells #[strV p, strV s] 59) = WA := ⟨_, rfl⟩
  have T0 := Lib.hid (show Two WA w.heap.size (strV p) (strV s) 59 from hWA ▸ Two.new w (strV p) (strV s) 59 _ rfl)
  rw [hWA] at B0
  have HB0 := Lib.hid B0
  have HWA := Lib.hid hWA
  have K34 := Lib.hid (fun (w' : World) => (show Calls Tryd.prog 46 #[strV s, .int .u8 34] w' fun e w'' => e = .returned (.bool (qHas s 34)) ∧ w' = w'' from rhas_any s 34 w' (by omega) (by omega)))
  have K39 := Lib.hid (fun (w' : World) => (show Calls Tryd.prog 46 #[strV s, .int .u8 39] w' fun e w'' => e = .returned (.bool (qHas s 39)) ∧ w' = w'' from rhas_any s 39 w' (by omega) (by omega)))
  rw [h34] at K34
  rw [h39] at K39
  obtain ⟨B, cap, W1, hrun, hc1, hc2, hb1, hBl, hBw, hs1⟩ := bytes_made p WA (by omega)
  have hB1 := HB0.out.trans (hb1.mono HB0.out.size)
  have KP := Lib.hid (hp ▸ rpubAll_any p (some ⟨B, 0, none⟩) p.length cap W1 rfl (by omega) hs1)
  have HB1 := Lib.hid hB1
  have T1 := Lib.hid (T0.out.below hb1)
  clear ht hb1 hB1 hs1 B0 hWA h34 hp h39
  obtain ⟨x0, x1, _, _⟩ := T0.out.at
  go_enter Tryd.func37, Tryd.ntmps37
  go_wp2_with fail
  rw [HWA.out]
  clear HWA
  refine (K34.out WA).mono ?_
  rintro e w2 ⟨rfl, rfl⟩
  go_wp2_with fail
  clear x0 x1
  refine KP.out.mono ?_
  rintro e w3 ⟨rfl, hb3⟩
  have HB3 := Lib.hid (HB1.out.trans (hb3.mono HB1.out.size))
  have T3 := Lib.hid (T1.out.below hb3)
  clear hb3
  obtain ⟨x0, x1, _, _⟩ := T3.out.at
  go_wp2_with fail
  refine (K39.out w3).mono ?_
  rintro e w4 ⟨rfl, rfl⟩
  go_wp2_with fail
  go_ret2
  exact ⟨rfl, HB3.out⟩

set_option maxHeartbeats 4000000 in
theorem rput_0101 (p s : List UInt8) (w : World) (h8 : p.length ≤ 300) (h9 : s.length ≤ 300) (ht : TabP w) (h34 : qHas s 34 = false) (hp : pubB p = true) (he : p = []) :
    Calls Tryd.prog 37 #[.agg #[strV p, strV s]] w fun e w' => e = .returned (.tuple #[strV ([83, 89, 83, 84, 69, 77, 32] ++ [34] ++ s ++ [34]), .bool true]) ∧ Below w.heap.size w w' := by
  have B0 := (Below.refl w.heap.size w).alloc (Nat.le_refl _) (.cells #[strV p, strV s] 59)
  obtain ⟨WA, hWA⟩ : ∃ WA, w.alloc (.cells #[strV p, strV s] 59) = WA := ⟨_, rfl⟩
  have T0 := Lib.hid (show Two WA w.heap.size (strV p) (strV s) 59 from hWA ▸ Two.new w (strV p) (strV s) 59 _ rfl)
  rw [hWA] at B0
  have HB0 := Lib.hid B0
  have HWA := Lib.hid hWA
  have K34 := Lib.hid (fun (w' : World) => (show Calls Tryd.prog 46 #[strV s, .int .u8 34] w' fun e w'' => e = .returned (.bool (qHas s 34)) ∧ w' = w'' from rhas_any s 34 w' (by omega) (by omega)))
  rw [h34] at K34
  obtain ⟨B, cap, W1, hrun, hc1, hc2, hb1, hBl, hBw, hs1⟩ := bytes_made p WA (by omega)
  have hB1 := HB0.out.trans (hb1.mono HB0.out.size)
  have KP := Lib.hid (hp ▸ rpubAll_any p (some ⟨B, 0, none⟩) p.length cap W1 rfl (by omega) hs1)
  have HB1 := Lib.hid hB1
  have T1 := Lib.hid (T0.out.below hb1)
  have eX : (p == []) = true := by simpa using he
  have eX2 : p.isEmpty = true := by simpa using he
  have z1 := str_size p
  have z2 := str_size s
  clear ht hb1 hB1 hs1 B0 hWA h34 hp he
  obtain ⟨x0, x1, _, _⟩ := T0.out.at
  go_enter Tryd.func37, Tryd.ntmps37
  go_wp2_with fail
  rw [HWA.out]
  clear HWA
  refine (K34.out WA).mono ?_
  rintro e w2 ⟨rfl, rfl⟩
  go_wp2_with fail
  clear x0 x1
  refine KP.out.mono ?_
  rintro e w3 ⟨rfl, hb3⟩
  have HB3 := Lib.hid (HB1.out.trans (hb3.mono HB1.out.size))
  have T3 := Lib.hid (T1.out.below hb3)
  clear hb3
  obtain ⟨x0, x1, _, _⟩ := T3.out.at
  go_wp2_with fail
  go_ret2
  exact ⟨ret_put2 (join_sys 34 s), HB3.out⟩

set_option maxHeartbeats 4000000 in
theorem rput_0100 (p s : List UInt8) (w : World) (h8 : p.length ≤ 300) (h9 : s.length ≤ 300) (ht : TabP w) (h34 : qHas s 34 = false) (hp : pubB p = true) (he : p ≠ []) :
    Calls Tryd.prog 37 #[.agg #[strV p, strV s]] w fun e w' => e = .returned (.tuple #[strV (([80, 85, 66, 76, 73, 67, 32, 34] ++ p ++ [34, 32]) ++ [34] ++ s ++ [34]), .bool true]) ∧ Below w.heap.size w w' := by
  have B0 := (Below.refl w.heap.size w).alloc (Nat.le_refl _) (.cells #[strV p, strV s] 59)
  obtain ⟨WA, hWA⟩ : ∃ WA, w.alloc (.cells #[strV p, strV s] 59) = WA := ⟨_, rfl⟩
  have T0 := Lib.hid (show Two WA w.heap.size (strV p) (strV s) 59 from hWA ▸ Two.new w (strV p) (strV s) 59 _ rfl)
  rw [hWA] at B0
  have HB0 := Lib.hid B0
  have HWA := Lib.hid hWA
  have K34 := Lib.hid (fun (w' : World) => (show Calls Tryd.prog 46 #[strV s, .int .u8 34] w' fun e w'' => e = .returned (.bool (qHas s 34)) ∧ w' = w'' from rhas_any s 34 w' (by omega) (by omega)))
  rw [h34] at K34
  obtain ⟨B, cap, W1, hrun, hc1, hc2, hb1, hBl, hBw, hs1⟩ := bytes_made p WA (by omega)
  have hB1 := HB0.out.trans (hb1.mono HB0.out.size)
  have KP := Lib.hid (hp ▸ rpubAll_any p (some ⟨B, 0, none⟩) p.length cap W1 rfl (by omega) hs1)
  have HB1 := Lib.hid hB1
  have T1 := Lib.hid (T0.out.below hb1)
  have eX : (p == []) = false := by simpa using he
  have eX2 : p.isEmpty = false := by simpa using he
  have z1 := str_size p
  have z2 := str_size s
  clear ht hb1 hB1 hs1 B0 hWA h34 hp he
  obtain ⟨x0, x1, _, _⟩ := T0.out.at
  go_enter Tryd.func37, Tryd.ntmps37
  go_wp2_with fail
  rw [HWA.out]
  clear HWA
  refine (K34.out WA).mono ?_
  rintro e w2 ⟨rfl, rfl⟩
  go_wp2_with fail
  clear x0 x1
  refine KP.out.mono ?_
  rintro e w3 ⟨rfl, hb3⟩
  have HB3 := Lib.hid (HB1.out.trans (hb3.mono HB1.out.size))
  have T3 := Lib.hid (T1.out.below hb3)
  clear hb3
  obtain ⟨x0, x1, _, _⟩ := T3.out.at
  go_wp2_with fail
  go_ret2
  exact ⟨ret_put2 (join_pub 34 p s), HB3.out⟩

set_option maxHeartbeats 4000000 in
theorem rput_1101 (p s : List UInt8) (w : World) (h8 : p.length ≤ 300) (h9 : s.length ≤ 300) (ht : TabP w) (h34 : qHas s 34 = true) (hp : pubB p = true) (h39 : qHas s 39 = false) (he : p = []) :
    Calls Tryd.prog 37 #[.agg #[strV p, strV s]] w fun e w' => e = .returned (.tuple #[strV ([83, 89, 83, 84, 69, 77, 32] ++ [39] ++ s ++ [39]), .bool true]) ∧ Below w.heap.size w w' := by
  have B0 := (Below.refl w.heap.size w).alloc (Nat.le_refl _) (.cells #[strV p, strV s] 59)
  obtain ⟨WA, hWA⟩ : ∃ WA, w.alloc (.cells #[strV p, strV s] 59) = WA := ⟨_, rfl⟩
  have T0 := Lib.hid (show Two WA w.heap.size (strV p) (strV s) 59 from hWA ▸ Two.new w (strV p) (strV s) 59 _ rfl)
  rw [hWA] at B0
  have HB0 := Lib.hid B0
  have HWA := Lib.hid hWA
  have K34 := Lib.hid (fun (w' : World) => (show Calls Tryd.prog 46 #[strV s, .int .u8 34] w' fun e w'' => e = .returned (.bool (qHas s 34)) ∧ w' = w'' from rhas_any s 34 w' (by omega) (by omega)))
  have K39 := Lib.hid (fun (w' : World) => (show Calls Tryd.prog 46 #[strV s, .int .u8 39] w' fun e w'' => e = .returned (.bool (qHas s 39)) ∧ w' = w'' from rhas_any s 39 w' (by omega) (by omega)))
  rw [h34] at K34
  rw [h39] at K39
  obtain ⟨B, cap, W1, hrun, hc1, hc2, hb1, hBl, hBw, hs1⟩ := bytes_made p WA (by omega)
  have hB1 := HB0.out.trans (hb1.mono HB0.out.size)
  have KP := Lib.hid (hp ▸ rpubAll_any p (some ⟨B, 0, none⟩) p.length cap W1 rfl (by omega) hs1)
  have HB1 := Lib.hid hB1
  have T1 := Lib.hid (T0.out.below hb1)
  have eX : (p == []) = true := by simpa using he
  have eX2 : p.isEmpty = true := by simpa using he
  have z1 := str_size p
  have z2 := str_size s
  clear ht hb1 hB1 hs1 B0 hWA h34 hp h39 he
  obtain ⟨x0, x1, _, _⟩ := T0.out.at
  go_enter Tryd.func37, Tryd.ntmps37
  go_wp2_with fail
  rw [HWA.out]
  clear HWA
  refine (K34.out WA).mono ?_
  rintro e w2 ⟨rfl, rfl⟩
  go_wp2_with fail
  clear x0 x1
  refine KP.out.mono ?_
  rintro e w3 ⟨rfl, hb3⟩
  have HB3 := Lib.hid (HB1.out.trans (hb3.mono HB1.out.size))
  have T3 := Lib.hid (T1.out.below hb3)
  clear hb3
  obtain ⟨x0, x1, _, _⟩ := T3.out.at
  go_wp2_with fail
  refine (K39.out w3).mono ?_
  rintro e w4 ⟨rfl, rfl⟩
  go_wp2_with fail
  go_ret2
  exact ⟨ret_put2 (join_sys 39 s), HB3.out⟩

set_option maxHeartbeats 4000000 in
theorem rput_1100 (p s : List UInt8) (w : World) (h8 : p.length ≤ 300) (h9 : s.length ≤ 300) (ht : TabP w) (h34 : qHas s 34 = true) (hp : pubB p = true) (h39 : qHas s 39 = false) (he : p ≠ []) :
    Calls Tryd.prog 37 #[.agg #[strV p, strV s]] w fun e w' => e = .returned (.tuple #[strV (([80, 85, 66, 76, 73, 67, 32, 34] ++ p ++ [34, 32]) ++ [39] ++ s ++ [39]), .bool true]) ∧ Below w.heap.size w w' := by
  have B0 := (Below.refl w.heap.size w).alloc (Nat.le_refl _) (.cells #[strV p, strV s] 59)
  obtain ⟨WA, hWA⟩ : ∃ WA, w.alloc (.cells #[strV p, strV s] 59) = WA := ⟨_, rfl⟩
  have T0 := Lib.hid (show Two WA w.heap.size (strV p) (strV s) 59 from hWA ▸ Two.new w (strV p) (strV s) 59 _ rfl)
  rw [hWA] at B0
  have HB0 := Lib.hid B0
  have HWA := Lib.hid hWA
  have K34 := Lib.hid (fun (w' : World) => (show Calls Tryd.prog 46 #[strV s, .int .u8 34] w' fun e w'' => e = .returned (.bool (qHas s 34)) ∧ w' = w'' from rhas_any s 34 w' (by omega) (by omega)))
  have K39 := Lib.hid (fun (w' : World) => (show Calls Tryd.prog 46 #[strV s, .int .u8 39] w' fun e w'' => e = .returned (.bool (qHas s 39)) ∧ w' = w'' from rhas_any s 39 w' (by omega) (by omega)))
  rw [h34] at K34
  rw [h39] at K39
  obtain ⟨B, cap, W1, hrun, hc1, hc2, hb1, hBl, hBw, hs1⟩ := bytes_made p WA (by omega)
  have hB1 := HB0.out.trans (hb1.mono HB0.out.size)
  have KP := Lib.hid (hp ▸ rpubAll_any p (some ⟨B, 0, none⟩) p.length cap W1 rfl (by omega) hs1)
  have HB1 := Lib.hid hB1
  have T1 := Lib.hid (T0.out.below hb1)
  have eX : (p == []) = false := by simpa using he
  have eX2 : p.isEmpty = false := by simpa using he
  have z1 := str_size p
  have z2 := str_size s
  clear ht hb1 hB1 hs1 B0 hWA h34 hp h39 he
  obtain ⟨x0, x1, _, _⟩ := T0.out.at
  go_enter Tryd.func37, Tryd.ntmps37
  go_wp2_with fail
  rw [HWA.out]
  clear HWA
  refine (K34.out WA).mono ?_
  rintro e w2 ⟨rfl, rfl⟩
  go_wp2_with fail
  clear x0 x1
  refine KP.out.mono ?_
  rintro e w3 ⟨rfl, hb3⟩
  have HB3 := Lib.hid (HB1.out.trans (hb3.mono HB1.out.size))
  have T3 := Lib.hid (T1.out.below hb3)
  clear hb3
  obtain ⟨x0, x1, _, _⟩ := T3.out.at
  go_wp2_with fail
  refine (K39.out w3).mono ?_
  rintro e w4 ⟨rfl, rfl⟩
  go_wp2_with fail
  go_ret2
  exact ⟨ret_put2 (join_pub 39 p s), HB3.out⟩
end Go.Proofs.YtdmfladcldkmeaaDoor
namespace Go.Proofs.YtdmfladcldkmeaaDoor
open Go.ChangeShapes Go.WideShapes Go.ChangeAt Go.RowKit
set_option linter.unusedVariables false
set_option maxRecDepth 100000

theorem lv1 : readV [97, 98, 58, 99, 61, 49] 0 startN charN = .tuple #[.string ⟨#[97, 98, 58, 99]⟩, .int .i64 4, .int .i64 0] := by kernel_rfl
theorem lv2 : readV [97, 98, 58, 99, 61, 49] 0 (plainP startN) (plainP charN) = .tuple #[.string ⟨#[97, 98]⟩, .int .i64 2, .int .i64 0] := by kernel_rfl
theorem lv3 : partV [97, 98, 58, 99] = .tuple #[.string ⟨#[97, 98]⟩, .string ⟨#[99]⟩, .int .i64 0] := by kernel_rfl
theorem lv4 : partV [97, 58] = .tuple #[.string ⟨#[]⟩, .string ⟨#[]⟩, .int .i64 9] := by kernel_rfl

theorem readV_tup (l : List UInt8) (k : Int) (p q : Int → Bool) : ∃ s z e, readV l k p q = .tuple #[.string s, .int .i64 z, .int .i64 e] := by
  unfold readV
  split
  · exact ⟨_, _, _, rfl⟩
  · split
    · exact ⟨_, _, _, rfl⟩
    · split <;> exact ⟨_, _, _, rfl⟩
end Go.Proofs.YtdmfladcldkmeaaDoor
namespace Go.Proofs.YtdmfladcldkmeaaDoor
open Go.ChangeShapes Go.WideShapes Go.ChangeAt Go.RowKit
set_option linter.unusedVariables false
set_option maxRecDepth 100000

theorem whole_items (l : List UInt8) (q : Int → Bool) (f : Nat) : ∀ k, k ≤ l.length → l.length ≤ k + f → (endN l q f q k = l.length ↔ ∀ x ∈ items l f k, x.2.2 = 0 ∧ q x.1 = true) := by
  induction f with
  | zero =>
    intro k h1 h2
    rw [items_end l 0 k (by omega), endN]
    simp; omega
  | succ f ih =>
    intro k h1 h2
    rcases Nat.lt_or_ge k l.length with hlt | hge
    · by_cases h0 : (chrAt l k).2 = 0
      · rw [items_bad l f k hlt h0, endN_out _ _ (.inr (.inl h0))]
        constructor
        · intro h; omega
        · intro h
          have := (h (0, k, 5) (by simp)).1
          cases this
      · rw [items_good l f k hlt h0]
        have hroom := (chrAt_room l k hlt).1
        cases hq : q (chrAt l k).1 with
        | false =>
          rw [endN_out _ _ (.inr (.inr hq))]
          constructor
          · intro h; omega
          · intro h
            have := (h _ (List.mem_cons_self)).2
            simp only [] at this
            rw [hq] at this; cases this
        | true =>
          rw [endN_on (r := (chrAt l k).1) (m := (chrAt l k).2) f k hlt (Prod.ext_iff.2 ⟨Eq.refl _, Eq.refl _⟩) h0 hq, ih _ hroom (by omega)]
          constructor
          · intro h x hx
            rcases List.mem_cons.1 hx with rfl | hx
            · exact ⟨rfl, hq⟩
            · exact h x hx
          · intro h x hx
            exact h x (List.mem_cons_of_mem _ hx)
    · rw [items_end l _ k hge, endN_out _ _ (.inl hge)]
      constructor
      · intro _ x hx; cases hx
      · intro _; omega
/-- Are all the bytes characters, all of that class? -/
def allR (l : List UInt8) (q : Int → Bool) : Bool := (badS l).isNone && (runesS l).all q
theorem allR_whole {l : List UInt8} {q : Int → Bool} (h : l ≠ []) : wholeB l q q = allR l q := by
  rw [Bool.eq_iff_iff, whole_iff, whole_items l q l.length 0 (Nat.zero_le _) (by omega)]
  unfold allR badS runesS stepsS
  rw [Bool.and_eq_true, Option.isNone_iff_eq_none, Option.map_eq_none_iff, List.find?_eq_none, List.all_eq_true]
  constructor
  · rintro ⟨_, h1⟩
    refine ⟨fun x hx => ?_, fun r hr => ?_⟩
    · rw [(h1 x hx).1]; decide
    · obtain ⟨x, hx, rfl⟩ := List.mem_map.1 hr
      exact (h1 x hx).2
  · rintro ⟨h1, h2⟩
    refine ⟨h, fun x hx => ⟨?_, h2 _ (List.mem_map.2 ⟨x, hx, rfl⟩)⟩⟩
    have := h1 x hx
    simpa using this
theorem rall3_any (l : List UInt8) (A : Option Addr) (len cap : Nat) (w : World) (hlen : l.length = len) (hl : len ≤ 1000000) (hs : Sees w A (vB l)) :
    Calls Tryd.prog 85 #[.slice A len cap, .int .i64 3] w fun e w' => e = .returned (.bool (allR l charN)) ∧ Below w.heap.size w w' := by
  have hn : (runesS l).length ≤ 17592186044416 := by unfold runesS; rw [List.length_map]; have := stepsS_len l; omega
  unfold allR
  cases hb : badS l with
  | none =>
    have RG2 : ∀ w1, Below w.heap.size w w1 → Calls Tryd.prog 96 #[.slice A len cap] w1 fun e w' => ∃ A' c', e = .returned (.tuple #[.slice A' (runesS l).length c', .int .i64 (-1)]) ∧ Sees w' A' ((runesS l).map (Value.int .i64)) ∧ Below w.heap.size w w' :=
      fun w1 hB => (rrunes_any A len cap l hlen (by omega) w1 (hs.below hB)).mono fun e W' ⟨h1, _, hb'⟩ => by
        obtain ⟨v, he, ho⟩ := h1 hb
        obtain ⟨A', c', rfl⟩ := ownsRow_form ho
        exact ⟨A', c', he, sees_own ho, hB.trans (hb'.mono hB.size)⟩
    exact rallR_good A len cap _ _ charN w rfl hn 3 (fun x w1 => ris3_any x w1) RG2 w (Below.refl _ _)
  | some m =>
    have RB2 : ∀ w1, Below w.heap.size w w1 → Calls Tryd.prog 96 #[.slice A len cap] w1 fun e w' => e = .returned (.tuple #[.slice none 0 0, .int .i64 m]) ∧ Below w.heap.size w w' :=
      fun w1 hB => (rrunes_any A len cap l hlen (by omega) w1 (hs.below hB)).mono fun e W' ⟨_, h2, hb'⟩ => ⟨h2 m hb, hB.trans (hb'.mono hB.size)⟩
    exact rallR_bad A len cap w 3 m RB2 w (Below.refl _ _)

/-- What Part tells, for the law. -/
theorem partV_tup (l : List UInt8) : ∃ (p q : List UInt8) (e : Int), partV l = .tuple #[strV p, strV q, .int .i64 e] ∧
    (e ≠ 0 ∨ (e = 0 ∧ p = [] ∧ q = l) ∨ (e = 0 ∧ p ≠ [] ∧ p ++ 58 :: q = l)) := by
  unfold partV
  split
  · exact ⟨[], [], 7, rfl, .inl (by omega)⟩
  · split
    · exact ⟨[], l, 0, rfl, .inr (.inl ⟨rfl, rfl, rfl⟩)⟩
    · next hc =>
      rcases colI_cases l with ⟨h, _⟩ | ⟨i, h, hi, _⟩
      · omega
      · rw [h, Int.toNat_natCast]
        split
        · exact ⟨[], [], 9, rfl, .inl (by omega)⟩
        · next h2 =>
          obtain ⟨hil, hv⟩ := List.getElem?_eq_some_iff.1 hi
          refine ⟨_, _, 0, rfl, .inr (.inr ⟨rfl, fun e => ?_, ?_⟩)⟩
          · have h5 : (l.take i).length = i := by simp; omega
            rw [e] at h5
            exact h2 (.inl h5.symm)
          · rw [← hv, ← List.drop_eq_getElem_cons hil, List.take_append_drop]
end Go.Proofs.YtdmfladcldkmeaaDoor
namespace Go.Proofs.YtdmfladcldkmeaaDoor
open Go.ChangeShapes Go.WideShapes Go.ChangeAt Go.RowKit
set_option linter.unusedVariables false
set_option maxRecDepth 100000

/-- A whole row has no byte that none of its characters is. -/
theorem en_no {l : List UInt8} {q : Int → Bool} {b : Nat} (h8 : b < 128) (hq : q (b : Int) = false) (f : Nat) : ∀ (p : Int → Bool) (k : Nat), p (b : Int) = false → endN l q f p k = l.length → ∀ j, k ≤ j → j < l.length → byteAt l j ≠ b := by
  induction f with
  | zero =>
    intro p k hp he j h1 h2
    rw [endN] at he
    omega
  | succ f ih =>
    intro p k hp he j h1 h2
    rw [endN] at he
    split at he
    · next h =>
      obtain ⟨h3, h0, h4⟩ := h
      obtain ⟨r, m, hrm⟩ : ∃ r m, chrAt l k = (r, m) := ⟨_, _, rfl⟩
      rw [hrm] at he h0 h4
      simp only at he h0 h4
      rcases Nat.lt_or_ge j (k + m) with h5 | h5
      · rcases Nat.eq_or_lt_of_le h1 with h6 | h6
        · subst h6
          intro e
          rw [xch_asc e h8] at hrm
          injection hrm with hr _
          rw [← hr, hp] at h4
          cases h4
        · have := chr_tail hrm h0 (t := j - k) (by omega) (by omega)
          rw [show k + (j - k) = j by omega] at this
          omega
      · exact ih q (k + m) hq he j h5 h2
    · omega
theorem pub_all (p : List UInt8) : pubB p = allR p (fun x => cls x 4) := by
  unfold pubB allR
  cases badS p <;> simp
theorem pub_no34 {p : List UInt8} (h : pubB p = true) : Lib.indexByte p 34 < 0 := by
  by_cases hp : p = []
  · subst hp; decide
  · rw [pub_all, ← allR_whole hp] at h
    obtain ⟨_, he⟩ := whole_iff.1 h
    have hn := en_no (l := p) (q := fun x => cls x 4) (b := 34) (by omega) (by decide) p.length (fun x => cls x 4) 0 (by decide) he
    rcases index_cases p 34 with ⟨h1, _⟩ | ⟨i, h1, h2, h3, _⟩
    · omega
    · exact absurd ((at_iff (b := 34) h2 (by omega)).1 (show p[i]? = some (UInt8.ofNat 34) from h3)) (hn i (Nat.zero_le _) h2)
theorem quo_mid (A v B : List UInt8) (q : UInt8) (hq : q = 34 ∨ q = 39) (h : Lib.indexByte v q < 0) : quoT (A ++ (q :: v ++ q :: B)) (A.length : Nat) = (v, ((A.length + 1 + v.length + 1 : Nat) : Int), 0) := by
  have hn : ∀ k : Nat, v[k]? ≠ some q := by
    rcases index_cases v q with ⟨_, h2⟩ | ⟨i, h2, _⟩
    · exact h2
    · omega
  have hix : Lib.indexByte (v ++ q :: B) q = v.length := by
    rcases index_cases (v ++ q :: B) q with ⟨_, h2⟩ | ⟨i, h2, h3, h4, h5⟩
    · exact absurd (by simp) (h2 v.length)
    · rw [h2]
      rcases Nat.lt_or_ge i v.length with h6 | h6
      · rw [List.getElem?_append_left h6] at h4; exact absurd h4 (hn i)
      · rcases Nat.lt_or_ge v.length i with h7 | h7
        · exact absurd (by simp) (h5 v.length h7)
        · omega
  have e0 : byteAt (A ++ (q :: v ++ q :: B)) A.length = q.toNat := by
    unfold byteAt; rw [List.getElem?_append_right (Nat.le_refl _)]; simp
  have e1 : (A ++ (q :: v ++ q :: B)).drop (A.length + 1) = v ++ q :: B := by
    rw [← List.drop_drop, List.drop_left]; rfl
  have hu : UInt8.ofNat q.toNat = q := by simp
  have hz := quoT_ok (l := A ++ (q :: v ++ q :: B)) (k := A.length) (b := q.toNat) (i := v.length) (by simp) e0 (by rcases hq with rfl | rfl <;> simp) (by rw [e1, hu]; exact hix)
  rw [e1, List.take_left] at hz
  exact hz
theorem bb_mid (f : List UInt8 → Int → Trip) (A B : List UInt8) (b : UInt8) (hb : blankB (b.toNat : Int) = false) : bbT f (A ++ 32 :: b :: B) A.length = f (A ++ 32 :: b :: B) ((A.length + 1 : Nat) : Int) := by
  have e0 : byteAt (A ++ 32 :: b :: B) A.length = 32 := by unfold byteAt; rw [List.getElem?_append_right (Nat.le_refl _)]; simp
  have e1 : byteAt (A ++ 32 :: b :: B) (A.length + 1) = b.toNat := by unfold byteAt; rw [List.getElem?_append_right (by omega)]; simp
  exact bbT_on f (blk_one (by simp) e0 (by rw [e1]; exact hb)) (by omega)
theorem quoB_ok {p s : List UInt8} (h : okX p s = true) : (quoB s = 34 ∨ quoB s = 39) ∧ Lib.indexByte s (quoB s) < 0 ∧ blankB ((quoB s).toNat : Int) = false := by
  unfold okX at h
  rw [Bool.and_eq_true] at h
  unfold quoB
  cases h1 : qHas s 34 with
  | true =>
    rw [if_pos rfl]
    have h2 := h.2
    rw [h1, Bool.true_and] at h2
    refine ⟨.inr rfl, ?_, by decide⟩
    have h3 : qHas s 39 = false := by simpa using h2
    unfold qHas at h3
    have := of_decide_eq_false h3
    rw [show (39 : UInt8) = UInt8.ofNat 39 from rfl]
    omega
  | false =>
    rw [if_neg (by simp)]
    refine ⟨.inl rfl, ?_, by decide⟩
    unfold qHas at h1
    have := of_decide_eq_false h1
    rw [show (34 : UInt8) = UInt8.ofNat 34 from rfl]
    omega
theorem sys_mid (A p s : List UInt8) (q : UInt8) (hq : q = 34 ∨ q = 39) (h : Lib.indexByte s q < 0) (hb : blankB (q.toNat : Int) = false) : sysT (A ++ 32 :: q :: (s ++ [q])) p A.length = (p, s, ((A ++ 32 :: q :: (s ++ [q])).length : Int), 0) := by
  have hm := quo_mid (A ++ [32]) s [] q hq h
  have e : A ++ 32 :: q :: (s ++ [q]) = (A ++ [32]) ++ (q :: s ++ [q]) := by simp
  refine (sysT_ok (s := s) (y := ((A ++ 32 :: q :: (s ++ [q])).length : Int)) ?_)
  rw [bb_mid quoT A (s ++ [q]) q hb, e, show A.length + 1 = (A ++ [32]).length by simp, hm]
  simp
  omega
theorem ext_put {p s : List UInt8} (h : okX p s = true) : extT (putX p s) 0 = (p, s, ((putX p s).length : Int), 0) := by
  obtain ⟨hq, hi, hb⟩ := quoB_ok h
  have hp : pubB p = true := by unfold okX at h; rw [Bool.and_eq_true] at h; exact h.1
  obtain ⟨q, hqq⟩ : ∃ q, quoB s = q := ⟨_, rfl⟩
  have hpx : putX p s = begB p ++ [q] ++ s ++ [q] := by unfold putX; rw [hqq]
  rw [hqq] at hq hi hb
  rw [hpx]
  clear hpx hqq h
  by_cases he : p = []
  · subst he
    have hL : begB [] ++ [q] ++ s ++ [q] = sysW ++ 32 :: q :: (s ++ [q]) := by unfold begB sysW; simp
    rw [hL]
    unfold extT
    rw [if_neg (by omega), if_pos (by unfold atB; simp [sysW])]
    exact sys_mid sysW [] s q hq hi hb
  · have hL : begB p ++ [q] ++ s ++ [q] = pubW ++ 32 :: 34 :: (p ++ 34 :: 32 :: q :: (s ++ [q])) := by unfold begB pubW; simp [he]
    have hL2 : pubW ++ 32 :: 34 :: (p ++ 34 :: 32 :: q :: (s ++ [q])) = (pubW ++ [32]) ++ (34 :: p ++ 34 :: (32 :: q :: (s ++ [q]))) := by simp
    have hL3 : pubW ++ 32 :: 34 :: (p ++ 34 :: 32 :: q :: (s ++ [q])) = (pubW ++ 32 :: 34 :: p ++ [34]) ++ 32 :: q :: (s ++ [q]) := by simp
    have hbb : bbT pubT (pubW ++ 32 :: 34 :: (p ++ 34 :: 32 :: q :: (s ++ [q]))) 6 = (p, ((9 + p.length : Nat) : Int), 0) := by
      rw [show 6 = pubW.length from rfl, bb_mid pubT pubW _ 34 (by decide)]
      have hm := quo_mid (pubW ++ [32]) p (32 :: q :: (s ++ [q])) 34 (.inl rfl) (pub_no34 hp)
      have e6 : (pubW ++ [32]).length = pubW.length + 1 := by simp
      rw [← hL2, e6] at hm
      unfold pubT chkT
      rw [hm]
      have hc : chk [pubE] p = 0 := by simp [chk, pubE, hp]
      simp only
      rw [if_neg (by simp), if_neg (by rw [hc]; simp)]
      simp [pubW]
      omega
    have hsy := sys_mid (pubW ++ 32 :: 34 :: p ++ [34]) p s q hq hi hb
    have e9 : (pubW ++ 32 :: 34 :: p ++ [34]).length = 9 + p.length := by simp [pubW]; omega
    rw [← hL3, e9] at hsy
    rw [hL]
    unfold extT
    rw [if_neg (by omega), if_neg (by unfold atB; simp [sysW, pubW]), if_pos (by unfold atB; simp [pubW])]
    rw [show (0 : Int).toNat + 6 = 6 from rfl, hbb]
    simp only
    rw [if_neg (by simp), Int.toNat_natCast]
    exact hsy
/-- Put, by the program. -/
def putV (p s : List UInt8) : List UInt8 := if okX p s then putX p s else []
theorem xput_any (p s : List UInt8) (w : World) (h8 : p.length ≤ 300) (h9 : s.length ≤ 300) (ht : TabP w) :
    Calls Tryd.prog 36 #[.agg #[strV p, strV s]] w fun e w' => e = .returned (.tuple #[strV (putV p s), .int .i64 (if okX p s then 0 else 7)]) ∧ Below w.heap.size w w' := by
  unfold putV okX putX quoB begB
  cases h34 : qHas s 34 <;> cases hp : pubB p
  · exact xput_0000 p s w h8 h9 ht h34 hp
  · by_cases he : p = []
    · simp only [he, if_true, Bool.true_and, Bool.false_and, Bool.not_false]
      subst he
      exact xput_0101 [] s w h8 h9 ht h34 hp rfl
    · simp only [he, if_false, if_true, Bool.true_and, Bool.false_and, Bool.not_false]
      exact xput_0100 p s w h8 h9 ht h34 hp he
  · exact xput_1000 p s w h8 h9 ht h34 hp
  · cases h39 : qHas s 39
    · by_cases he : p = []
      · simp only [he, if_true, Bool.true_and, Bool.and_false, Bool.not_false]
        subst he
        exact xput_1101 [] s w h8 h9 ht h34 hp h39 rfl
      · simp only [he, if_false, if_true, Bool.true_and, Bool.and_false, Bool.not_false]
        exact xput_1100 p s w h8 h9 ht h34 hp h39 he
    · exact xput_1110 p s w h8 h9 ht h34 hp h39
theorem rput_any (p s : List UInt8) (w : World) (h8 : p.length ≤ 300) (h9 : s.length ≤ 300) (ht : TabP w) :
    Calls Tryd.prog 37 #[.agg #[strV p, strV s]] w fun e w' => e = .returned (.tuple #[strV (putV p s), .bool (okX p s)]) ∧ Below w.heap.size w w' := by
  unfold putV okX putX quoB begB
  cases h34 : qHas s 34 <;> cases hp : pubB p
  · exact rput_0000 p s w h8 h9 ht h34 hp
  · by_cases he : p = []
    · simp only [he, if_true, Bool.true_and, Bool.false_and, Bool.not_false]
      subst he
      exact rput_0101 [] s w h8 h9 ht h34 hp rfl
    · simp only [he, if_false, if_true, Bool.true_and, Bool.false_and, Bool.not_false]
      exact rput_0100 p s w h8 h9 ht h34 hp he
  · exact rput_1000 p s w h8 h9 ht h34 hp
  · cases h39 : qHas s 39
    · by_cases he : p = []
      · simp only [he, if_true, Bool.true_and, Bool.and_false, Bool.not_false]
        subst he
        exact rput_1101 [] s w h8 h9 ht h34 hp h39 rfl
      · simp only [he, if_false, if_true, Bool.true_and, Bool.and_false, Bool.not_false]
        exact rput_1100 p s w h8 h9 ht h34 hp h39 he
    · exact rput_1110 p s w h8 h9 ht h34 hp h39
end Go.Proofs.YtdmfladcldkmeaaDoor
