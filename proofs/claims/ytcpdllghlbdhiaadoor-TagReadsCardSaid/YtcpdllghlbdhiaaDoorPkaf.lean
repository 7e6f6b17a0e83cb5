/- Contracts of strings.Builder over a builder that the caller has made: what it holds behind WriteString and WriteByte, and what String tells. Escape: what each byte comes to; the program's walk. References: entities by their mark, by the program and by the document. References: bytes.Equal and HasPrefix over two bytes that are known. Contracts: digits; the classes together. -/
import Derived.Lib.Builder
import Derived.Lib.AppendStr
import Derived.Lib.UnsafeStr
import Derived.Laws.Externs
import Derived.Laws.AppendOwn
import Derived.RegionTactic
import Derived.ChangeAlike
import Derived.Test.YtcpdllghlbdhiaaDoorPkaa
import Derived.Test.YtcpdllghlbdhiaaDoorPkad
import Derived.Test.YtcpdllghlbdhiaaDoorPkae
namespace Go.Proofs.YtcpdllghlbdhiaaDoor
open Go.ChangeShapes Go.WideShapes Go.ChangeAt Go.RowKit
set_option linter.unusedVariables false
set_option maxRecDepth 100000

/-- The builder at block b holds the bytes l; what it owns lies from block B on. -/
def Bld (B b : Nat) (l : List UInt8) (w : World) : Prop := Lib.IsBuilder 120 5 B b (vB l) w
theorem bSize : (Tryd.prog.info? 120).map (·.size) = some 2 := by kernel_rfl
theorem bLies : liesAt Tryd.prog Tryd.prog.depth 120 (2 / Tryd.prog.cellsOf 120) 0 120 1 = true := by kernel_rfl
theorem bByte : (Tryd.prog.info? 5).map (fun i => (i.zero, i.size, i.bytes)) = some (some (.int .u8 0), 1, 1) := by kernel_rfl
theorem bCells : Tryd.prog.cellsOf 5 = 1 := by kernel_rfl
theorem bNe : (120 : Nat) ≠ 5 := by decide
theorem cells_vB (l : List UInt8) : Lib.byteCells l = vB l := rfl
theorem str_vB (l : List UInt8) : Lib.strCells ⟨l.toArray⟩ = vB l := rfl

set_option maxHeartbeats 1000000 in
theorem check_used (b : Nat) (w : World) (h0 : w.cell? ⟨b, 0, none⟩ = some (.pointer (some ⟨b, 0, none⟩))) :
    Calls Tryd.prog 123 #[.pointer (some ⟨b, 0, none⟩)] w fun e w' => e = .returned (.tuple #[]) ∧ w = w' := by
  obtain ⟨j, hj, _⟩ := Option.map_eq_some_iff.1 bSize
  go_enter Tryd.func123, Tryd.ntmps123
  go_wp2
  rw [Lib.run_neq_ptr_same w _ Tryd.underlying118 hj]
  go_wp2
  go_end0
  exact ⟨rfl, rfl⟩

set_option maxHeartbeats 1000000 in
theorem check_fresh (b : Nat) (w : World) (h0 : w.cell? ⟨b, 0, none⟩ = some (.pointer none)) (hsh : w.shape? b = some (120, 2)) (hfz : w.frozen? ⟨b, 0, none⟩ = false) :
    Calls Tryd.prog 123 #[.pointer (some ⟨b, 0, none⟩)] w fun e w' => e = .returned (.tuple #[]) ∧ w' = w.setCell ⟨b, 0, none⟩ (.pointer (some ⟨b, 0, none⟩)) := by
  obtain ⟨j, hj, hjs⟩ := Option.map_eq_some_iff.1 bSize
  go_enter Tryd.func123, Tryd.ntmps123
  go_wp2
  rw [Lib.run_to_unsafe w ⟨b, 0, none⟩ Tryd.underlying118 Tryd.underlying172 hj (by rw [hjs]; decide) hsh (Nat.zero_lt_succ 1)]
  simp only [Result.andThen]
  rw [Oper.upon_value]
  go_wp2
  rw [run_callFunc_extern Tryd.func152 (by kernel_rfl) (by kernel_rfl) (by kernel_rfl) (e := Extern.AbiNoEscape.same) (by kernel_rfl)]
  rw [Lib.run_noEscape]
  simp only [Result.andThen]
  rw [Oper.upon_value]
  go_wp2
  rw [Lib.run_from_unsafe w ⟨b, 0, none⟩ Tryd.underlying172 Tryd.underlying118 hj hsh bLies]
  simp only [Result.andThen]
  rw [Oper.upon_value]
  go_wp2
  go_end0
  exact ⟨rfl, rfl⟩

theorem check_any (B b : Nat) (l : List UInt8) (w : World) (h : Bld B b l w) :
    Calls Tryd.prog 123 #[.pointer (some ⟨b, 0, none⟩)] w fun e w' => e = .returned (.tuple #[]) ∧ Lib.BuilderAt 120 5 B b (.pointer (some ⟨b, 0, none⟩)) (vB l) w' ∧ Below B w w' := by
  rcases h with h | h
  · refine (check_fresh b w h.cell0 h.shape h.frozen0).mono ?_
    rintro e w' ⟨rfl, rfl⟩
    exact ⟨rfl, h.used _, (Below.refl B w).setCell (p := ⟨b, 0, none⟩) h.1 _⟩
  · refine (check_used b w h.cell0).mono ?_
    rintro e w' ⟨rfl, rfl⟩
    exact ⟨rfl, h, Below.refl B _⟩
theorem heap_lt {w : World} {b : Nat} {o : Obj} (h : w.heap[b]? = some o) : b < w.heap.size := (Array.getElem?_eq_some_iff.1 h).1

set_option maxHeartbeats 2000000 in
theorem bldByte_any (B b : Nat) (l : List UInt8) (c : UInt8) (w : World) (h : Bld B b l w) (hlen : l.length + 1 ≤ 140737488355328) (hBw : B ≤ w.heap.size) :
    Calls Tryd.prog 94 #[.pointer (some ⟨b, 0, none⟩), .int .u8 (c.toNat : Int)] w fun e w' => e = .returned .nilIface ∧ Bld B b (l ++ [c]) w' ∧ Below B w w' := by
  obtain ⟨i0, hi, hz0, hz1, hz2⟩ := info_parts bByte
  go_enter Tryd.func94, Tryd.ntmps94
  go_wp2_with (go_at_call 123; refine (check_any B b l _ h).mono ?_)
  rintro e w1 ⟨rfl, h1, hb1⟩
  obtain ⟨hB, v, hbk, hown, hne⟩ := h1
  rw [vB_len] at hown
  have c0 : w1.cell? ⟨b, 0, none⟩ = some (.pointer (some ⟨b, 0, none⟩)) := by rw [Lib.cell_of_heap hbk]; rfl
  have c1 : w1.cell? ⟨b, 1, none⟩ = some v := by rw [Lib.cell_of_heap hbk]; rfl
  go_wp2_with (at_builtin; refine wpList_append_own _ rfl _ _ 22 rfl B 5 i0 (.int .u8 0) 1 1 Tryd.underlying22 hi hz0 hz1 hz2 rfl (by decide) _ _ _ rfl (hown.alloc _) ⟨w1.heap.size, 0, none⟩ 1 1 [.int .u8 (c.toNat : Int)] rfl rfl ?c1 ?c2 ?c3 ?c4 ?c5 ?_)
  case c1 =>
    intro j u hj
    match j, hj with
    | 0, hj => simp at hj; subst hj; simp [Addr.add]
  case c2 => intro u hu; simp at hu; subst hu; rfl
  case c3 => unfold maxLen; omega
  case c4 => omega
  case c5 => have := hb1.size; simp; omega
  intro v' w2 hown' hgrow _
  have hlt := heap_lt hbk
  have hb2 : w2.heap[b]? = some (.cells #[.pointer (some ⟨b, 0, none⟩), v] 120 (0, 0)) := by
    rw [hgrow.block b (by simp; omega) (fun e => hne e.symm), Lib.alloc_old w1 _ b hlt]
    exact hbk
  have d0 : w2.cell? ⟨b, 0, none⟩ = some (.pointer (some ⟨b, 0, none⟩)) := by rw [Lib.cell_of_heap hb2]; rfl
  have d1 : w2.cell? ⟨b, 1, none⟩ = some v := by rw [Lib.cell_of_heap hb2]; rfl
  have f1 : w2.frozen? ⟨b, 1, none⟩ = false := Lib.frozen_of_heap hb2 1
  obtain ⟨g, cap, rfl⟩ : ∃ g cap, v' = .slice (some ⟨g, 0, none⟩) (l.length + 1) cap := by
    rcases hown'.2 with ⟨_, h0⟩ | ⟨g, cap, cur, hv, _⟩
    · omega
    · exact ⟨g, cap, hv⟩
  go_wp2
  go_ret
  refine ⟨rfl, .inr ?_, ?_⟩
  · rw [vB_append]
    exact Lib.BuilderAt.put (T := 120) (e := 5) hB hb2 (bs' := vB l ++ vB [c]) (by simpa [vB_len, vB] using hown') bNe
  · exact ((hb1.alloc (by have := hb1.size; omega) _).grown hgrow (by have := hb1.size; simp; omega) (fun k hk => (hown.lt k hk).1)).setCell (p := ⟨b, 1, none⟩) hB _

set_option maxHeartbeats 2000000 in
theorem bldStr_any (B b : Nat) (l m : List UInt8) (w : World) (h : Bld B b l w) (hlen : l.length + m.length ≤ 140737488355328) (hBw : B ≤ w.heap.size) :
    Calls Tryd.prog 93 #[.pointer (some ⟨b, 0, none⟩), .string ⟨m.toArray⟩] w fun e w' => e = .returned (.tuple #[.int .i64 (m.length : Nat), .nilIface]) ∧ Bld B b (l ++ m) w' ∧ Below B w w' := by
  obtain ⟨i0, hi, hz0, hz1, hz2⟩ := info_parts bByte
  go_enter Tryd.func93, Tryd.ntmps93
  go_wp2_with (go_at_call 123; refine (check_any B b l _ h).mono ?_)
  rintro e w1 ⟨rfl, h1, hb1⟩
  obtain ⟨hB, v, hbk, hown, hne⟩ := h1
  rw [vB_len] at hown
  have c0 : w1.cell? ⟨b, 0, none⟩ = some (.pointer (some ⟨b, 0, none⟩)) := by rw [Lib.cell_of_heap hbk]; rfl
  have c1 : w1.cell? ⟨b, 1, none⟩ = some v := by rw [Lib.cell_of_heap hbk]; rfl
  have hms : (⟨m.toArray⟩ : ByteArray).size = m.length := by simp [ByteArray.size]
  go_wp2_with (at_builtin; refine Lib.wpList_append_own_string _ rfl _ _ 22 9 rfl B 5 i0 Tryd.underlying22 Tryd.underlying9 hi hz0 hz1 hz2 _ _ _ rfl hown ⟨m.toArray⟩ rfl ?c3 ?c4 ?c5 ?_)
  case c3 => unfold maxLen; omega
  case c4 => omega
  case c5 => have := hb1.size; omega
  intro v' w2 hown' hgrow _
  have hlt := heap_lt hbk
  have hb2 : w2.heap[b]? = some (.cells #[.pointer (some ⟨b, 0, none⟩), v] 120 (0, 0)) := by
    rw [hgrow.block b hlt (fun e => hne e.symm)]
    exact hbk
  have d0 : w2.cell? ⟨b, 0, none⟩ = some (.pointer (some ⟨b, 0, none⟩)) := by rw [Lib.cell_of_heap hb2]; rfl
  have d1 : w2.cell? ⟨b, 1, none⟩ = some v := by rw [Lib.cell_of_heap hb2]; rfl
  have f1 : w2.frozen? ⟨b, 1, none⟩ = false := Lib.frozen_of_heap hb2 1
  obtain ⟨ao, n', cap, rfl⟩ : ∃ ao n' cap, v' = .slice ao n' cap := by
    rcases hown'.2 with ⟨hv, _⟩ | ⟨g, cap, cur, hv, _⟩
    · exact ⟨_, _, _, hv⟩
    · exact ⟨_, _, _, hv⟩
  go_wp2
  go_ret2
  refine ⟨by first | rfl | (rw [hms]), .inr ?_, ?_⟩
  · rw [vB_append]
    exact Lib.BuilderAt.put (T := 120) (e := 5) hB hb2 (bs' := vB l ++ vB m) (by rw [List.length_append, vB_len, vB_len, ← hms]; exact hown') bNe
  · exact (hb1.grown hgrow (by have := hb1.size; omega) (fun k hk => (hown.lt k hk).1)).setCell (p := ⟨b, 1, none⟩) hB _

set_option maxHeartbeats 1000000 in
theorem bldGive (B b : Nat) (l : List UInt8) (w : World) (h : Bld B b l w) (h0 : l ≠ []) :
    Calls Tryd.prog 95 #[.pointer (some ⟨b, 0, none⟩)] w fun e w' => e = .returned (.string ⟨l.toArray⟩) ∧ Below B w w' := by
  obtain ⟨p, hB, v, hbk, hown, hne⟩ : ∃ p, Lib.BuilderAt 120 5 B b p (vB l) w := by
    rcases h with h | h
    · exact ⟨_, h⟩
    · exact ⟨_, h⟩
  have hl0 : l.length ≠ 0 := by simpa using h0
  rw [vB_len] at hown
  obtain ⟨g, cap, cur, rfl, hbg, hg, hnc, hcm, hcs, htake⟩ : ∃ g cap cur, v = .slice (some ⟨g, 0, none⟩) l.length cap ∧ B ≤ g ∧ w.heap[g]? = some (.cells cur 5 (0, 0)) ∧ l.length ≤ cap ∧ cap ≤ maxLen ∧ cur.size = cap * 1 ∧ cur.toList.take (l.length * 1) = vB l := by
    rcases hown.2 with ⟨_, hz⟩ | ⟨g, cap, cur, hv, r⟩
    · exact absurd hz hl0
    · exact ⟨g, cap, cur, hv, r⟩
  have c1 : w.drew.cell? ⟨b, 1, none⟩ = some (.slice (some ⟨g, 0, none⟩) l.length cap) := by
    have : w.drew.heap[b]? = some (.cells #[p, .slice (some ⟨g, 0, none⟩) l.length cap] 120 (0, 0)) := hbk
    rw [Lib.cell_of_heap this]; rfl
  have hSD : (Builtin.unsafeSliceData_ #[22] 148 #[.slice (some ⟨g, 0, none⟩) l.length cap]).run Tryd.prog w.drew = .ok (.pointer (some ⟨g, 0, none⟩)) w.drew :=
    Lib.run_unsafeSliceData_row _ _ _ _ _ _ (by omega)
  have hUS : (Builtin.unsafeString_ #[148, 3] 9 #[.pointer (some ⟨g, 0, none⟩), .int .i64 l.length]).run Tryd.prog w.drew = .ok (.string ⟨l.toArray⟩) (w.drew.freeze ⟨g, 0, none⟩ l.length) := by
    refine Lib.run_unsafeString_row w.drew 148 3 9 5 Tryd.underlying148 bCells g cur.size (by have hg' : w.drew.heap[g]? = some (.cells cur 5 (0, 0)) := hg; simp [World.shape?, hg']) l h0 (by omega) (by unfold maxLen at hcm; omega) ?_
    intro j x hx
    have := hown.cells (g := g) rfl j (.int .u8 x.toNat) (by simp [vB, hx])
    exact this
  go_enter Tryd.func95, Tryd.ntmps95
  go_wp2
  go_region
  all_goals (go_wp2; go_ret; exact ⟨rfl, Lib.below_freeze (Below.drew (Below.refl B w)) (p := ⟨g, 0, none⟩) hbg _⟩)

set_option maxHeartbeats 2000000 in
theorem bldGive_nil (B b : Nat) (p : Value) (w : World) (hbk : w.heap[b]? = some (.cells #[p, .slice none 0 0] 120 (0, 0))) :
    Calls Tryd.prog 95 #[.pointer (some ⟨b, 0, none⟩)] w fun e w' => e = .returned (.string ⟨#[]⟩) ∧ Below B w w' := by
  have hUS : ∀ (W : World) (q : Option Addr), (Builtin.unsafeString_ #[148, 3] 9 #[.pointer q, .int .i64 0]).run Tryd.prog W = .ok (.string .empty) W := fun W q => Lib.run_unsafeString_none W _ _ _ q
  have c1 : w.drew.cell? ⟨b, 1, none⟩ = some (.slice none 0 0) := by
    have : w.drew.heap[b]? = some (.cells #[p, .slice none 0 0] 120 (0, 0)) := hbk
    rw [Lib.cell_of_heap this]; rfl
  have hSD : (Builtin.unsafeSliceData_ #[22] 148 #[.slice none 0 0]).run Tryd.prog w.drew = .ok (.pointer none) w.drew := rfl
  go_enter Tryd.func95, Tryd.ntmps95
  go_wp2
  go_region
  all_goals (go_wp2; go_ret; exact ⟨rfl, Below.drew (Below.refl B w)⟩)

set_option maxHeartbeats 2000000 in
theorem bldGive_noroom (B b g : Nat) (p : Value) (cur : Array Value) (w : World) (hBw : B ≤ w.heap.size) (hbk : w.heap[b]? = some (.cells #[p, .slice (some ⟨g, 0, none⟩) 0 0] 120 (0, 0))) (hg : w.heap[g]? = some (.cells cur 5 (0, 0))) :
    Calls Tryd.prog 95 #[.pointer (some ⟨b, 0, none⟩)] w fun e w' => e = .returned (.string ⟨#[]⟩) ∧ Below B w w' := by
  have hUS : ∀ (W : World) (q : Option Addr), (Builtin.unsafeString_ #[148, 3] 9 #[.pointer q, .int .i64 0]).run Tryd.prog W = .ok (.string .empty) W := fun W q => Lib.run_unsafeString_none W _ _ _ q
  have hlt := heap_lt hbk
  have c1 : w.drew.cell? ⟨b, 1, none⟩ = some (.slice (some ⟨g, 0, none⟩) 0 0) := by
    have : w.drew.heap[b]? = some (.cells #[p, .slice (some ⟨g, 0, none⟩) 0 0] 120 (0, 0)) := hbk
    rw [Lib.cell_of_heap this]; rfl
  have hSD : (Builtin.unsafeSliceData_ #[22] 148 #[.slice (some ⟨g, 0, none⟩) 0 0]).run Tryd.prog w.drew = .ok (.pointer (some ⟨w.drew.heap.size, 0, none⟩)) (w.drew.alloc (.view ⟨g, 0, none⟩ 5)) :=
    Lib.run_unsafeSliceData_zero w.drew _ _ 5 Tryd.underlying148 ⟨g, 0, none⟩ 0 (5, cur.size) (by have hg' : w.drew.heap[g]? = some (.cells cur 5 (0, 0)) := hg; simp [World.shape?, hg'])
  have c2 : (w.drew.alloc (.view ⟨g, 0, none⟩ 5)).cell? ⟨b, 1, none⟩ = some (.slice (some ⟨g, 0, none⟩) 0 0) := by
    have : (w.drew.alloc (.view ⟨g, 0, none⟩ 5)).heap[b]? = _ := (Lib.alloc_old w.drew _ b hlt).trans hbk
    rw [Lib.cell_of_heap this]; rfl
  have c3 : (w.alloc (.view ⟨g, 0, none⟩ 5)).drew.cell? ⟨b, 1, none⟩ = some (.slice (some ⟨g, 0, none⟩) 0 0) := c2
  have c0 : w.cell? ⟨b, 1, none⟩ = some (.slice (some ⟨g, 0, none⟩) 0 0) := c1
  go_enter Tryd.func95, Tryd.ntmps95
  go_wp2
  go_region
  all_goals (go_wp2; go_ret; exact ⟨rfl, (Below.drew (Below.refl B w)).alloc hBw _⟩)

set_option maxHeartbeats 2000000 in
theorem bldGive_room (B b g cap : Nat) (p : Value) (w : World) (hc0 : cap ≠ 0) (hbk : w.heap[b]? = some (.cells #[p, .slice (some ⟨g, 0, none⟩) 0 cap] 120 (0, 0))) :
    Calls Tryd.prog 95 #[.pointer (some ⟨b, 0, none⟩)] w fun e w' => e = .returned (.string ⟨#[]⟩) ∧ Below B w w' := by
  have hUS : ∀ (W : World) (q : Option Addr), (Builtin.unsafeString_ #[148, 3] 9 #[.pointer q, .int .i64 0]).run Tryd.prog W = .ok (.string .empty) W := fun W q => Lib.run_unsafeString_none W _ _ _ q
  have c1 : w.drew.cell? ⟨b, 1, none⟩ = some (.slice (some ⟨g, 0, none⟩) 0 cap) := by
    have : w.drew.heap[b]? = some (.cells #[p, .slice (some ⟨g, 0, none⟩) 0 cap] 120 (0, 0)) := hbk
    rw [Lib.cell_of_heap this]; rfl
  have hSD : (Builtin.unsafeSliceData_ #[22] 148 #[.slice (some ⟨g, 0, none⟩) 0 cap]).run Tryd.prog w.drew = .ok (.pointer (some ⟨g, 0, none⟩)) w.drew :=
    Lib.run_unsafeSliceData_row _ _ _ _ _ _ hc0
  clear hc0
  go_enter Tryd.func95, Tryd.ntmps95
  go_wp2
  go_region
  all_goals (go_wp2; go_ret; exact ⟨rfl, Below.drew (Below.refl B w)⟩)

/-- String of a builder, whatever it holds. -/
theorem bldGive_any (B b : Nat) (l : List UInt8) (w : World) (h : Bld B b l w) (hBw : B ≤ w.heap.size) :
    Calls Tryd.prog 95 #[.pointer (some ⟨b, 0, none⟩)] w fun e w' => e = .returned (.string ⟨l.toArray⟩) ∧ Below B w w' := by
  by_cases hl : l = []
  · subst hl
    obtain ⟨p, hB, v, hbk, hown, hne⟩ : ∃ p, Lib.BuilderAt 120 5 B b p (vB []) w := by
      rcases h with h | h
      · exact ⟨_, h⟩
      · exact ⟨_, h⟩
    rcases hown.2 with ⟨rfl, _⟩ | ⟨g, cap, cur, rfl, hbg, hg, _, _, _, _⟩
    · exact bldGive_nil B b p w hbk
    · by_cases hc0 : cap = 0
      · subst hc0
        exact bldGive_noroom B b g p cur w hBw hbk hg
      · exact bldGive_room B b g cap p w hc0 hbk
  · exact bldGive B b l w h hl
/-- A builder that has just been made. -/
theorem bld_made (w : World) : Bld w.heap.size w.heap.size [] (w.alloc (.cells #[.pointer none, .slice none 0 0] 120)) :=
  Lib.fresh_isBuilder _ _ w
theorem Bld.drewN {B b : Nat} {l : List UInt8} {w : World} (h : Bld B b l w) (n : Nat) : Bld B b l (w.drewN n) := h
end Go.Proofs.YtcpdllghlbdhiaaDoor
namespace Go.Proofs.YtcpdllghlbdhiaaDoor
open Go.ChangeShapes Go.WideShapes Go.ChangeAt Go.RowKit
set_option linter.unusedVariables false
set_option maxRecDepth 100000

/-- What a byte comes to. -/
def escB (b : Nat) : List UInt8 :=
  if b = 38 then [38, 97, 109, 112, 59] else if b = 60 then [38, 108, 116, 59] else if b = 62 then [38, 103, 116, 59] else if b = 34 then [38, 113, 117, 111, 116, 59]
  else if b = 13 then [38, 35, 49, 51, 59] else if b = 10 then [38, 35, 49, 48, 59] else if b = 9 then [38, 35, 57, 59] else [UInt8.ofNat b]
/-- A text, escaped. -/
def escL (l : List UInt8) : List UInt8 := l.flatMap fun c => escB c.toNat
theorem escB_le (b : Nat) : (escB b).length ≤ 6 := by
  unfold escB
  repeat' split
  all_goals simp
theorem escL_nil : escL [] = [] := rfl
theorem escL_app (l m : List UInt8) : escL (l ++ m) = escL l ++ escL m := by unfold escL; rw [List.flatMap_append]
theorem escL_le (l : List UInt8) : (escL l).length ≤ 6 * l.length := by
  induction l with
  | nil => simp [escL]
  | cons c l ih =>
    have h := escB_le c.toNat
    rw [show escL (c :: l) = escB c.toNat ++ escL l from rfl, List.length_append, List.length_cons]
    omega
theorem escL_snoc (l : List UInt8) (k : Nat) (hk : k < l.length) : escL (l.take (k + 1)) = escL (l.take k) ++ escB (byteAt l k) := by
  rw [List.take_succ_eq_append_getElem hk, escL_app]
  congr 1
  unfold byteAt
  rw [List.getElem?_eq_getElem hk]
  show escB _ ++ [] = _
  rw [List.append_nil]
  rfl
/-- At the loop's head: what is escaped so far. -/
def EscRel (l : List UInt8) (B : Nat) (w0 : World) (i : Value) (w : World) : Prop := ∃ k : Nat, k ≤ l.length ∧ i = .int .i64 k ∧ Bld B B (escL (l.take k)) w ∧ Below B w0 w
theorem escRel_mk {l : List UInt8} {B : Nat} {w0 w : World} {i : Int} (k : Nat) (h1 : k ≤ l.length) (h2 : i = k) (h3 : Bld B B (escL (l.take k)) w) (h4 : Below B w0 w) : EscRel l B w0 (.int .i64 i) w :=
  ⟨k, h1, by rw [h2], h3, h4⟩
end Go.Proofs.YtcpdllghlbdhiaaDoor
namespace Go.Proofs.YtcpdllghlbdhiaaDoor
open Go.ChangeShapes Go.WideShapes Go.ChangeAt Go.RowKit
set_option linter.unusedVariables false
set_option maxRecDepth 100000

/-- The end of the plain name behind a mark. -/
def entZ (l : List UInt8) (k : Nat) : Nat := endN l (plainP charN) l.length (plainP startN) (k + 1)
def noV (e : Int) : Value := .tuple #[.string ⟨#[]⟩, .int .i64 0, .int .i64 e]
def entV (l : List UInt8) (k : Int) (mark : Nat) : Value :=
  if k < 0 ∨ (l.length : Int) < k then noV 3
  else if k.toNat = l.length ∨ byteAt l k.toNat ≠ mark then noV 7
  else if entZ l k.toNat = k.toNat + 1 then noV 7
  else if 1024 < entZ l k.toNat - (k.toNat + 1) then noV 11
  else if entZ l k.toNat = l.length ∨ byteAt l (entZ l k.toNat) ≠ 59 then noV 7
  else .tuple #[strV ((l.drop (k.toNat + 1)).take (entZ l k.toNat - (k.toNat + 1))), .int .i64 ((entZ l k.toNat : Nat) + 1), .int .i64 0]

set_option maxHeartbeats 2000000 in
theorem cread_any (l : List UInt8) (A : Option Addr) (n c : Nat) (k : Int) (mark : Nat) (w : World)
    (hn : l.length = n) (hnc : n ≤ c) (hm : c ≤ 9223372036854775807) (hk : I64 k) (hn9 : n ≤ 1000000) (hmk : mark < 256) (hs : Sees w A (vB l)) (ht : TabN w) :
    Calls Tryd.prog 156 #[.slice A n c, .int .i64 k, .int .u8 mark] w fun e w' => e = .returned (entV l k mark) ∧ Below w.heap.size w w' := by
  have hkl := hk.1
  have hkh := hk.2
  by_cases hout : k < 0 ∨ (n : Int) < k
  · have hv : entV l k mark = noV 3 := by rw [entV, if_pos (by rw [hn]; exact hout)]
    rw [hv]
    clear hv
    unfold noV
    rcases hout with h0 | h0
    all_goals
      go_enter Tryd.func156, Tryd.ntmps156
      go_wp2_with fail
      go_ret3
      exact ⟨rfl, Below.refl _ _⟩
  · obtain ⟨j, rfl⟩ : ∃ j : Nat, k = j := ⟨k.toNat, by omega⟩
    have hj : j ≤ n := by omega
    by_cases hjn : j = n
    · have hv : entV l j mark = noV 7 := by rw [entV, if_neg (by omega), Int.toNat_natCast, if_pos (.inl (by omega))]
      rw [hv]
      clear hv
      unfold noV
      subst hjn
      go_enter Tryd.func156, Tryd.ntmps156
      go_wp2_with fail
      go_ret3
      exact ⟨rfl, Below.refl _ _⟩
    · have hjl : j < n := by omega
      obtain ⟨ad, rfl, hcell⟩ := hs.byte (k := j) (by omega)
      obtain ⟨b, hb⟩ : ∃ b, byteAt l j = b := ⟨_, rfl⟩
      have hb256 := byteAt_lt l j
      rw [hb] at hcell hb256
      by_cases hbm : b = mark
      · have HP := plainN_any l (some ad) n c ((j + 1 : Nat) : Int) w hn hnc hm ⟨by omega, by omega⟩ hs ht
        have hzle := endN_le l (plainP charN) l.length (plainP startN) (j + 1) (by omega)
        have hv0 : entV l j mark = if entZ l j = j + 1 then noV 7 else if 1024 < entZ l j - (j + 1) then noV 11 else if entZ l j = l.length ∨ byteAt l (entZ l j) ≠ 59 then noV 7 else .tuple #[strV ((l.drop (j + 1)).take (entZ l j - (j + 1))), .int .i64 ((entZ l j : Nat) + 1), .int .i64 0] := by
          rw [entV, if_neg (by omega), Int.toNat_natCast, if_neg (by rw [hb]; omega)]
        rw [hv0]
        clear hv0
        have hz0 : endN l (plainP charN) l.length (plainP startN) (j + 1) = entZ l j := rfl
        rw [hz0] at hzle
        obtain ⟨z, hz⟩ : ∃ z, entZ l j = z := ⟨_, rfl⟩
        rw [hz] at hz0 hzle ⊢
        have t1 : ((b : Int) != (mark : Int)) = false := by rw [hbm]; simp
        by_cases h1 : z = j + 1
        · rw [if_pos h1]
          rw [readV_none (by omega) (by rw [hz0]; exact h1)] at HP
          have H := Lib.hid HP
          clear HP hz0 hz hs hb h1
          unfold noV
          go_enter Tryd.func156, Tryd.ntmps156
          go_wp2_with fail
          refine H.out.mono ?_
          rintro e w1 ⟨rfl, hb1⟩
          go_wp2_with fail
          go_ret3
          exact ⟨rfl, hb1⟩
        · rw [if_neg h1]
          by_cases h2 : 1024 < z - (j + 1)
          · rw [if_pos h2]
            rw [readV_long (by omega) hz0 (by omega) h2] at HP
            have H := Lib.hid HP
            clear HP hz0 hz hs hb h1 h2
            unfold noV
            go_enter Tryd.func156, Tryd.ntmps156
            go_wp2_with fail
            refine H.out.mono ?_
            rintro e w1 ⟨rfl, hb1⟩
            go_wp2_with fail
            go_ret3
            exact ⟨rfl, hb1⟩
          · rw [if_neg h2]
            rw [readV_ok (by omega) hz0 (by omega) (by omega)] at HP
            obtain ⟨S, hS⟩ : ∃ S, (l.drop (j + 1)).take (z - (j + 1)) = S := ⟨_, rfl⟩
            rw [hS] at HP ⊢
            have H := Lib.hid HP
            clear HP hz0 hz hb h1 h2 hS
            by_cases h3 : z = l.length
            · rw [if_pos (.inl h3)]
              rw [hn] at h3
              subst h3
              clear hs
              unfold noV
              go_enter Tryd.func156, Tryd.ntmps156
              go_wp2_with fail
              refine H.out.mono ?_
              rintro e w1 ⟨rfl, hb1⟩
              go_wp2_with fail
              go_ret3
              exact ⟨rfl, hb1⟩
            · obtain ⟨ad2, e2, hcz⟩ := hs.byte (k := z) (by omega)
              injection e2 with e2
              subst e2
              obtain ⟨d, hd⟩ : ∃ d, byteAt l z = d := ⟨_, rfl⟩
              have hd256 := byteAt_lt l z
              rw [hd] at hcz hd256 ⊢
              have hzn : z < n := by omega
              have h3n : z ≠ n := by omega
              by_cases h4 : d = 59
              · rw [if_neg (by omega)]
                subst h4
                clear hs hd h3
                go_enter Tryd.func156, Tryd.ntmps156
                go_wp2_with fail
                refine H.out.mono ?_
                rintro e w1 ⟨rfl, hb1⟩
                have hcz1 := cell_later hb1 hcz
                go_wp2_with fail
                go_ret3
                exact ⟨rfl, hb1⟩
              · rw [if_pos (.inr h4)]
                have t2 : ((d : Int) != 59) = true := by simp; omega
                clear hs hd h3
                unfold noV
                go_enter Tryd.func156, Tryd.ntmps156
                go_wp2_with fail
                refine H.out.mono ?_
                rintro e w1 ⟨rfl, hb1⟩
                have hcz1 := cell_later hb1 hcz
                go_wp2_with fail
                go_ret3
                exact ⟨rfl, hb1⟩
      · have hv : entV l j mark = noV 7 := by rw [entV, if_neg (by omega), Int.toNat_natCast, if_pos (.inr (by rw [hb]; exact hbm))]
        rw [hv]
        have t1 : ((b : Int) != (mark : Int)) = true := by simp; omega
        clear hv hb hs
        unfold noV
        go_enter Tryd.func156, Tryd.ntmps156
        go_wp2_with fail
        go_ret3
        exact ⟨rfl, Below.refl _ _⟩

set_option maxHeartbeats 2000000 in
theorem rent_any (l : List UInt8) (A : Option Addr) (n c : Nat) (k : Int) (mark : Nat) (w : World)
    (hn : l.length = n) (hnc : n ≤ c) (hm : c ≤ 9223372036854775807) (hk : I64 k) (hn9 : n ≤ 1000000) (hmk : mark < 256) (hs : Sees w A (vB l)) (ht : TabN w) :
    Calls Tryd.prog 100 #[.slice A n c, .int .i64 k, .int .u8 mark] w fun e w' => e = .returned (entV l k mark) ∧ Below w.heap.size w w' := by
  have hkl := hk.1
  have hkh := hk.2
  by_cases hout : k < 0 ∨ (n : Int) < k
  · have hv : entV l k mark = noV 3 := by rw [entV, if_pos (by rw [hn]; exact hout)]
    rw [hv]
    clear hv
    unfold noV
    rcases hout with h0 | h0
    all_goals
      go_enter Tryd.func100, Tryd.ntmps100
      go_wp2_with fail
      go_ret3
      exact ⟨rfl, Below.refl _ _⟩
  · obtain ⟨j, rfl⟩ : ∃ j : Nat, k = j := ⟨k.toNat, by omega⟩
    have hj : j ≤ n := by omega
    by_cases hjn : j = n
    · have hv : entV l j mark = noV 7 := by rw [entV, if_neg (by omega), Int.toNat_natCast, if_pos (.inl (by omega))]
      rw [hv]
      clear hv
      unfold noV
      subst hjn
      go_enter Tryd.func100, Tryd.ntmps100
      go_wp2_with fail
      go_ret3
      exact ⟨rfl, Below.refl _ _⟩
    · have hjl : j < n := by omega
      obtain ⟨ad, rfl, hcell⟩ := hs.byte (k := j) (by omega)
      obtain ⟨b, hb⟩ : ∃ b, byteAt l j = b := ⟨_, rfl⟩
      have hb256 := byteAt_lt l j
      rw [hb] at hcell hb256
      by_cases hbm : b = mark
      · have HP := rread_any l (some ad) n c ((j + 1 : Nat) : Int) w true hn hnc (by omega) ⟨by omega, by omega⟩ hs
        rw [show kindP true startN = plainP startN from rfl, show kindP true charN = plainP charN from rfl] at HP
        have hzle := endN_le l (plainP charN) l.length (plainP startN) (j + 1) (by omega)
        have hv0 : entV l j mark = if entZ l j = j + 1 then noV 7 else if 1024 < entZ l j - (j + 1) then noV 11 else if entZ l j = l.length ∨ byteAt l (entZ l j) ≠ 59 then noV 7 else .tuple #[strV ((l.drop (j + 1)).take (entZ l j - (j + 1))), .int .i64 ((entZ l j : Nat) + 1), .int .i64 0] := by
          rw [entV, if_neg (by omega), Int.toNat_natCast, if_neg (by rw [hb]; omega)]
        rw [hv0]
        clear hv0
        have hz0 : endN l (plainP charN) l.length (plainP startN) (j + 1) = entZ l j := rfl
        rw [hz0] at hzle
        obtain ⟨z, hz⟩ : ∃ z, entZ l j = z := ⟨_, rfl⟩
        rw [hz] at hz0 hzle ⊢
        have t1 : ((b : Int) != (mark : Int)) = false := by rw [hbm]; simp
        by_cases h1 : z = j + 1
        · rw [if_pos h1]
          rw [readV_none (by omega) (by rw [hz0]; exact h1)] at HP
          have H := Lib.hid HP
          clear HP hz0 hz hs hb h1
          unfold noV
          go_enter Tryd.func100, Tryd.ntmps100
          go_wp2_with fail
          refine H.out.mono ?_
          rintro e w1 ⟨rfl, hb1⟩
          go_wp2_with fail
          go_ret3
          exact ⟨rfl, hb1⟩
        · rw [if_neg h1]
          by_cases h2 : 1024 < z - (j + 1)
          · rw [if_pos h2]
            rw [readV_long (by omega) hz0 (by omega) h2] at HP
            have H := Lib.hid HP
            clear HP hz0 hz hs hb h1 h2
            unfold noV
            go_enter Tryd.func100, Tryd.ntmps100
            go_wp2_with fail
            refine H.out.mono ?_
            rintro e w1 ⟨rfl, hb1⟩
            go_wp2_with fail
            go_ret3
            exact ⟨rfl, hb1⟩
          · rw [if_neg h2]
            rw [readV_ok (by omega) hz0 (by omega) (by omega)] at HP
            obtain ⟨S, hS⟩ : ∃ S, (l.drop (j + 1)).take (z - (j + 1)) = S := ⟨_, rfl⟩
            rw [hS] at HP ⊢
            have H := Lib.hid HP
            clear HP hz0 hz hb h1 h2 hS
            by_cases h3 : z = l.length
            · rw [if_pos (.inl h3)]
              rw [hn] at h3
              subst h3
              clear hs
              unfold noV
              go_enter Tryd.func100, Tryd.ntmps100
              go_wp2_with fail
              refine H.out.mono ?_
              rintro e w1 ⟨rfl, hb1⟩
              go_wp2_with fail
              go_ret3
              exact ⟨rfl, hb1⟩
            · obtain ⟨ad2, e2, hcz⟩ := hs.byte (k := z) (by omega)
              injection e2 with e2
              subst e2
              obtain ⟨d, hd⟩ : ∃ d, byteAt l z = d := ⟨_, rfl⟩
              have hd256 := byteAt_lt l z
              rw [hd] at hcz hd256 ⊢
              have hzn : z < n := by omega
              have h3n : z ≠ n := by omega
              by_cases h4 : d = 59
              · rw [if_neg (by omega)]
                subst h4
                clear hs hd h3
                go_enter Tryd.func100, Tryd.ntmps100
                go_wp2_with fail
                refine H.out.mono ?_
                rintro e w1 ⟨rfl, hb1⟩
                have hcz1 := cell_later hb1 hcz
                go_wp2_with fail
                go_ret3
                exact ⟨rfl, hb1⟩
              · rw [if_pos (.inr h4)]
                have t2 : ((d : Int) != 59) = true := by simp; omega
                clear hs hd h3
                unfold noV
                go_enter Tryd.func100, Tryd.ntmps100
                go_wp2_with fail
                refine H.out.mono ?_
                rintro e w1 ⟨rfl, hb1⟩
                have hcz1 := cell_later hb1 hcz
                go_wp2_with fail
                go_ret3
                exact ⟨rfl, hb1⟩
      · have hv : entV l j mark = noV 7 := by rw [entV, if_neg (by omega), Int.toNat_natCast, if_pos (.inr (by rw [hb]; exact hbm))]
        rw [hv]
        have t1 : ((b : Int) != (mark : Int)) = true := by simp; omega
        clear hv hb hs
        unfold noV
        go_enter Tryd.func100, Tryd.ntmps100
        go_wp2_with fail
        go_ret3
        exact ⟨rfl, Below.refl _ _⟩
end Go.Proofs.YtcpdllghlbdhiaaDoor
namespace Go.Proofs.YtcpdllghlbdhiaaDoor
open Go.ChangeShapes Go.WideShapes Go.ChangeAt Go.RowKit
set_option linter.unusedVariables false
set_option maxRecDepth 100000

set_option maxHeartbeats 1000000 in
theorem bEqual_any (l m : List UInt8) (A B : Option Addr) (n k c d : Nat) (w : World) (hn : l.length = n) (hk : m.length = k) (hs : Sees w A (vB l)) (ht : Sees w B (vB m)) :
    Calls Tryd.prog 104 #[.slice A n c, .slice B k d] w fun e w' => e = .returned (.bool (l == m)) ∧ w = w' := by
  have k1 : ∀ W : World, Sees W A (vB l) → (convert 22 9 (.slice A n c)).run Tryd.prog W = .ok (.string ⟨l.toArray⟩) W := fun W hW => conv_sees W A n c l hn hW
  have k2 : ∀ W : World, Sees W B (vB m) → (convert 22 9 (.slice B k d)).run Tryd.prog W = .ok (.string ⟨m.toArray⟩) W := fun W hW => conv_sees W B k d m hk hW
  have c1 := k1 w hs
  have c2 := k2 w ht
  clear k1 k2 hs ht hn hk
  go_enter Tryd.func104, Tryd.ntmps104
  go_wp2_with fail
  go_ret
  exact ⟨rfl, rfl⟩

set_option maxHeartbeats 1000000 in
theorem hasPre_any (l m : List UInt8) (A B : Option Addr) (n k c d : Nat) (w : World) (hn : l.length = n) (hnc : n ≤ c) (h9 : n ≤ 1000000) (hk : m.length = k) (h0 : 0 < k) (h8 : k ≤ 1000000) (hs : Sees w A (vB l)) (ht : Sees w B (vB m)) :
    Calls Tryd.prog 68 #[.slice A n c, .slice B k d] w fun e w' => e = .returned (.bool (l.take k == m)) ∧ w = w' := by
  by_cases hkn : k ≤ n
  · obtain ⟨ad, rfl, _⟩ := hs.byte (k := 0) (by omega)
    have hs2 := hs.take k
    rw [← vB_take] at hs2
    have H := Lib.hid (bEqual_any (l.take k) m (some ad) B k k c d w (by rw [List.length_take]; omega) hk hs2 ht)
    clear hs hs2 ht
    go_enter Tryd.func68, Tryd.ntmps68
    go_wp2_with fail
    refine H.out.mono ?_
    rintro e w1 ⟨rfl, rfl⟩
    go_wp2_with fail
    go_ret
    exact ⟨rfl, rfl⟩
  · have hf : false = (l.take k == m) := by
      symm
      rw [beq_eq_false_iff_ne]
      intro e
      have := congrArg List.length e
      rw [List.length_take] at this
      omega
    have HF := Lib.hid hf
    have hlt : n < k := by omega
    clear hs ht hf hkn
    go_enter Tryd.func68, Tryd.ntmps68
    go_wp2_with fail
    go_ret
    exact ⟨ret_bool HF.out, rfl⟩
end Go.Proofs.YtcpdllghlbdhiaaDoor
namespace Go.Proofs.YtcpdllghlbdhiaaDoor
open Go.ChangeShapes Go.WideShapes Go.ChangeAt Go.RowKit
set_option linter.unusedVariables false
set_option maxRecDepth 100000

/-- What a digit says, or -1. -/
def digV (r : Int) : Int := if 48 ≤ r ∧ r ≤ 57 then r - 48 else if 97 ≤ r ∧ r ≤ 102 then r - 87 else if 65 ≤ r ∧ r ≤ 70 then r - 55 else -1
def digN (r b : Int) : Int := if b = 10 ∨ b = 16 then (if b ≤ digV r then -1 else digV r) else -1
theorem ret_i64 {a b : Int} (h : a = b) : Ending.returned (.int .i64 a) = .returned (.int .i64 b) := by rw [h]

set_option maxRecDepth 100000 in
set_option maxHeartbeats 1000000 in
theorem digit_any (r b : Int) (w : World) :
    Calls Tryd.prog 117 #[.int .i64 r, .int .i64 b] w fun e w' => e = .returned (.int .i64 (digN r b)) ∧ w = w' := by
  have B : b = 10 ∨ b = 16 ∨ (b ≠ 10 ∧ b ≠ 16) := by omega
  have D : r < 48 ∨ (48 ≤ r ∧ r ≤ 57) ∨ (57 < r ∧ r < 65) ∨ (65 ≤ r ∧ r ≤ 70) ∨ (70 < r ∧ r < 97) ∨ (97 ≤ r ∧ r ≤ 102) ∨ 102 < r := by omega
  rcases B with rfl | rfl | ⟨b1, b2⟩
  · rcases D with d | ⟨d, d'⟩ | ⟨d, d'⟩ | ⟨d, d'⟩ | ⟨d, d'⟩ | ⟨d, d'⟩ | d
    all_goals
      go_enter Tryd.func117, Tryd.ntmps117
      go_wp2_with fail
      go_ret
      exact ⟨ret_i64 (by unfold digN digV; (repeat' split) <;> omega), rfl⟩
  · rcases D with d | ⟨d, d'⟩ | ⟨d, d'⟩ | ⟨d, d'⟩ | ⟨d, d'⟩ | ⟨d, d'⟩ | d
    all_goals
      go_enter Tryd.func117, Tryd.ntmps117
      go_wp2_with fail
      go_ret
      exact ⟨ret_i64 (by unfold digN digV; (repeat' split) <;> omega), rfl⟩
  · clear D
    have t1 : (b != 10) = true := by simp [b1]
    have t2 : (b != 16) = true := by simp [b2]
    go_enter Tryd.func117, Tryd.ntmps117
    go_wp2_with fail
    go_ret
    exact ⟨ret_i64 (by unfold digN; rw [if_neg (by omega)]), rfl⟩

def digS : List Nat := [48, 49, 50, 51, 52, 53, 54, 55, 56, 57, 97, 98, 99, 100, 101, 102]
def digC : List Nat := [48, 49, 50, 51, 52, 53, 54, 55, 56, 57, 65, 66, 67, 68, 69, 70]
theorem idx_digS (k : Nat) (h : k < 16) : ∀ w : World, (Instr.index 9 (.string { data := #[48, 49, 50, 51, 52, 53, 54, 55, 56, 57, 97, 98, 99, 100, 101, 102] }) (.int .i64 (k : Int))).run Tryd.prog w = .ok (.int .u8 ((digS[k]'h : Nat) : Int)) w := by
  match k, h with
  | 0, _ => exact fun _ => by kernel_rfl
  | 1, _ => exact fun _ => by kernel_rfl
  | 2, _ => exact fun _ => by kernel_rfl
  | 3, _ => exact fun _ => by kernel_rfl
  | 4, _ => exact fun _ => by kernel_rfl
  | 5, _ => exact fun _ => by kernel_rfl
  | 6, _ => exact fun _ => by kernel_rfl
  | 7, _ => exact fun _ => by kernel_rfl
  | 8, _ => exact fun _ => by kernel_rfl
  | 9, _ => exact fun _ => by kernel_rfl
  | 10, _ => exact fun _ => by kernel_rfl
  | 11, _ => exact fun _ => by kernel_rfl
  | 12, _ => exact fun _ => by kernel_rfl
  | 13, _ => exact fun _ => by kernel_rfl
  | 14, _ => exact fun _ => by kernel_rfl
  | 15, _ => exact fun _ => by kernel_rfl
  | j + 16, h => exact absurd h (by omega)
theorem idx_digC (k : Nat) (h : k < 16) : ∀ w : World, (Instr.index 9 (.string { data := #[48, 49, 50, 51, 52, 53, 54, 55, 56, 57, 65, 66, 67, 68, 69, 70] }) (.int .i64 (k : Int))).run Tryd.prog w = .ok (.int .u8 ((digC[k]'h : Nat) : Int)) w := by
  match k, h with
  | 0, _ => exact fun _ => by kernel_rfl
  | 1, _ => exact fun _ => by kernel_rfl
  | 2, _ => exact fun _ => by kernel_rfl
  | 3, _ => exact fun _ => by kernel_rfl
  | 4, _ => exact fun _ => by kernel_rfl
  | 5, _ => exact fun _ => by kernel_rfl
  | 6, _ => exact fun _ => by kernel_rfl
  | 7, _ => exact fun _ => by kernel_rfl
  | 8, _ => exact fun _ => by kernel_rfl
  | 9, _ => exact fun _ => by kernel_rfl
  | 10, _ => exact fun _ => by kernel_rfl
  | 11, _ => exact fun _ => by kernel_rfl
  | 12, _ => exact fun _ => by kernel_rfl
  | 13, _ => exact fun _ => by kernel_rfl
  | 14, _ => exact fun _ => by kernel_rfl
  | 15, _ => exact fun _ => by kernel_rfl
  | j + 16, h => exact absurd h (by omega)
theorem dig_hit (k : Nat) (hk : k < 16) (b : Int) (hb : b = 10 ∨ b = 16) (hkb : (k : Int) < b) (r : Int) (h : ((digS[k]'hk : Nat) : Int) = r ∨ ((digC[k]'hk : Nat) : Int) = r) : (k : Int) = digN r b := by
  have e1 : digV ((digS[k]'hk : Nat) : Int) = k := by
    match k, hk with
    | 0, _ => rfl
    | 1, _ => rfl
    | 2, _ => rfl
    | 3, _ => rfl
    | 4, _ => rfl
    | 5, _ => rfl
    | 6, _ => rfl
    | 7, _ => rfl
    | 8, _ => rfl
    | 9, _ => rfl
    | 10, _ => rfl
    | 11, _ => rfl
    | 12, _ => rfl
    | 13, _ => rfl
    | 14, _ => rfl
    | 15, _ => rfl
    | j + 16, h => exact absurd h (by omega)
  have e2 : digV ((digC[k]'hk : Nat) : Int) = k := by
    match k, hk with
    | 0, _ => rfl
    | 1, _ => rfl
    | 2, _ => rfl
    | 3, _ => rfl
    | 4, _ => rfl
    | 5, _ => rfl
    | 6, _ => rfl
    | 7, _ => rfl
    | 8, _ => rfl
    | 9, _ => rfl
    | 10, _ => rfl
    | 11, _ => rfl
    | 12, _ => rfl
    | 13, _ => rfl
    | 14, _ => rfl
    | 15, _ => rfl
    | j + 16, h => exact absurd h (by omega)
  have e : digV r = k := by rcases h with h | h <;> rw [← h] <;> assumption
  unfold digN
  rw [if_pos hb, e, if_neg (by omega)]
theorem digV_lt (r : Int) : digV r = -1 ∨ (∃ k : Nat, ∃ hk : k < 16, digV r = k ∧ (((digS[k]'hk : Nat) : Int) = r ∨ ((digC[k]'hk : Nat) : Int) = r)) := by
  have D : (48 ≤ r ∧ r ≤ 57) ∨ (65 ≤ r ∧ r ≤ 70) ∨ (97 ≤ r ∧ r ≤ 102) ∨ (r < 48 ∨ (57 < r ∧ r < 65) ∨ (70 < r ∧ r < 97) ∨ 102 < r) := by omega
  rcases D with ⟨d, d'⟩ | ⟨d, d'⟩ | ⟨d, d'⟩ | d
  · right
    have D : r = 48 ∨ r = 49 ∨ r = 50 ∨ r = 51 ∨ r = 52 ∨ r = 53 ∨ r = 54 ∨ r = 55 ∨ r = 56 ∨ r = 57 := by omega
    rcases D with rfl | rfl | rfl | rfl | rfl | rfl | rfl | rfl | rfl | rfl
    · exact ⟨0, by omega, rfl, .inl rfl⟩
    · exact ⟨1, by omega, rfl, .inl rfl⟩
    · exact ⟨2, by omega, rfl, .inl rfl⟩
    · exact ⟨3, by omega, rfl, .inl rfl⟩
    · exact ⟨4, by omega, rfl, .inl rfl⟩
    · exact ⟨5, by omega, rfl, .inl rfl⟩
    · exact ⟨6, by omega, rfl, .inl rfl⟩
    · exact ⟨7, by omega, rfl, .inl rfl⟩
    · exact ⟨8, by omega, rfl, .inl rfl⟩
    · exact ⟨9, by omega, rfl, .inl rfl⟩
  · right
    have D : r = 65 ∨ r = 66 ∨ r = 67 ∨ r = 68 ∨ r = 69 ∨ r = 70 := by omega
    rcases D with rfl | rfl | rfl | rfl | rfl | rfl
    · exact ⟨10, by omega, rfl, .inr rfl⟩
    · exact ⟨11, by omega, rfl, .inr rfl⟩
    · exact ⟨12, by omega, rfl, .inr rfl⟩
    · exact ⟨13, by omega, rfl, .inr rfl⟩
    · exact ⟨14, by omega, rfl, .inr rfl⟩
    · exact ⟨15, by omega, rfl, .inr rfl⟩
  · right
    have D : r = 97 ∨ r = 98 ∨ r = 99 ∨ r = 100 ∨ r = 101 ∨ r = 102 := by omega
    rcases D with rfl | rfl | rfl | rfl | rfl | rfl
    · exact ⟨10, by omega, rfl, .inl rfl⟩
    · exact ⟨11, by omega, rfl, .inl rfl⟩
    · exact ⟨12, by omega, rfl, .inl rfl⟩
    · exact ⟨13, by omega, rfl, .inl rfl⟩
    · exact ⟨14, by omega, rfl, .inl rfl⟩
    · exact ⟨15, by omega, rfl, .inl rfl⟩
  · left
    unfold digV
    rw [if_neg (by omega), if_neg (by omega), if_neg (by omega)]
theorem dig_miss (r : Int) (n : Nat) (hn : n ≤ 16) (hb : (n : Int) = 10 ∨ (n : Int) = 16) (h : ∀ j (hj : j < 16), j < n → ((digS[j]'hj : Nat) : Int) ≠ r ∧ ((digC[j]'hj : Nat) : Int) ≠ r) : -1 = digN r n := by
  unfold digN
  rw [if_pos hb]
  rcases digV_lt r with e | ⟨k, hk, e, h'⟩
  · rw [e]; split <;> rfl
  · rw [e]
    by_cases hkn : k < n
    · have := h k hk hkn
      rcases h' with h' | h'
      · exact absurd h' this.1
      · exact absurd h' this.2
    · rw [if_pos (by omega)]

set_option maxRecDepth 100000 in
set_option maxHeartbeats 2000000 in
theorem rdigit_any (r b : Int) (w : World) :
    Calls Tryd.prog 153 #[.int .i64 r, .int .i64 b] w fun e w' => e = .returned (.int .i64 (digN r b)) ∧ w = w' := by
  by_cases hbb : b = 10 ∨ b = 16
  · obtain ⟨n, rfl, hn, hn'⟩ : ∃ n : Nat, b = n ∧ n ≤ 16 ∧ (n = 10 ∨ n = 16) := by
      rcases hbb with rfl | rfl
      · exact ⟨10, rfl, by omega, .inl rfl⟩
      · exact ⟨16, rfl, by omega, .inr rfl⟩
    have HB := Lib.hid hbb
    clear hbb
    have HN := Lib.hid hn'
    rcases hn' with rfl | rfl
    all_goals
      go_enter Tryd.func153, Tryd.ntmps153
      go_wp2_with fail
    · go_loop [7] (fun i => ∃ k : Nat, k ≤ 10 ∧ i = .int .i64 k ∧ ∀ j (hj : j < 16), j < k → ((digS[j]'hj : Nat) : Int) ≠ r ∧ ((digC[j]'hj : Nat) : Int) ≠ r) (fun i => 10 - (intOf i).toNat)
      case atStart => exact ⟨0, by omega, rfl, fun j hj h => absurd h (by omega)⟩
      case round =>
        obtain ⟨k, hk, rfl, hno⟩ := hrel
        have HNO := Lib.hid hno
        clear hno
        by_cases hlt : k < 10
        · have hk16 : k < 16 := by omega
          have hix := idx_digS k hk16
          have hiy := idx_digC k hk16
          have HY := Lib.hid (dig_hit k hk16 10 (.inl rfl) (by omega) r)
          obtain ⟨x, hx⟩ : ∃ x, (digS[k]'hk16) = x := ⟨_, rfl⟩
          obtain ⟨y, hy⟩ : ∃ y, (digC[k]'hk16) = y := ⟨_, rfl⟩
          have hx9 : x < 256 := by
            have : ∀ y ∈ digS, y < 256 := by decide
            exact this x (hx ▸ List.getElem_mem hk16)
          have hy9 : y < 256 := by
            have : ∀ y ∈ digC, y < 256 := by decide
            exact this y (hy ▸ List.getElem_mem hk16)
          rw [hx] at hix HY
          rw [hy] at hiy HY
          have HX := Lib.hid hx
          have HZ := Lib.hid hy
          clear hx hy
          by_cases hxr : (x : Int) = r
          · have HXR := Lib.hid hxr
            have t : ((x : Int) == r) = true := by rw [hxr]; simp
            clear hxr
            go_wp2_with fail
            go_ret
            exact ⟨ret_i64 (HY.out (.inl HXR.out)), rfl⟩
          · have t : ((x : Int) == r) = false := by simpa using hxr
            have HXR := Lib.hid hxr
            clear hxr
            by_cases hyr : (y : Int) = r
            · have HYR := Lib.hid hyr
              have t' : ((y : Int) == r) = true := by rw [hyr]; simp
              clear hyr
              go_wp2_with fail
              go_ret
              exact ⟨ret_i64 (HY.out (.inr HYR.out)), rfl⟩
            · have t' : ((y : Int) == r) = false := by simpa using hyr
              have HYR := Lib.hid hyr
              clear hyr
              go_wp2_with fail
              go_round
              case rel =>
                refine ⟨k + 1, by omega, by go_num, fun j hj h => ?_⟩
                rcases Nat.lt_or_ge j k with h5 | h5
                · exact HNO.out j hj h5
                · obtain rfl : j = k := by omega
                  rw [HX.out, HZ.out]; exact ⟨HXR.out, HYR.out⟩
              case measure => simp [intOf]; omega
        · have hk10 : k = 10 := by omega
          subst hk10
          go_wp2_with fail
          go_ret
          exact ⟨ret_i64 (dig_miss r 10 (by omega) (.inl rfl) HNO.out), rfl⟩
    · go_loop [7] (fun i => ∃ k : Nat, k ≤ 16 ∧ i = .int .i64 k ∧ ∀ j (hj : j < 16), j < k → ((digS[j]'hj : Nat) : Int) ≠ r ∧ ((digC[j]'hj : Nat) : Int) ≠ r) (fun i => 16 - (intOf i).toNat)
      case atStart => exact ⟨0, by omega, rfl, fun j hj h => absurd h (by omega)⟩
      case round =>
        obtain ⟨k, hk, rfl, hno⟩ := hrel
        have HNO := Lib.hid hno
        clear hno
        by_cases hlt : k < 16
        · have hk16 : k < 16 := by omega
          have hix := idx_digS k hk16
          have hiy := idx_digC k hk16
          have HY := Lib.hid (dig_hit k hk16 16 (.inr rfl) (by omega) r)
          obtain ⟨x, hx⟩ : ∃ x, (digS[k]'hk16) = x := ⟨_, rfl⟩
          obtain ⟨y, hy⟩ : ∃ y, (digC[k]'hk16) = y := ⟨_, rfl⟩
          have hx9 : x < 256 := by
            have : ∀ y ∈ digS, y < 256 := by decide
            exact this x (hx ▸ List.getElem_mem hk16)
          have hy9 : y < 256 := by
            have : ∀ y ∈ digC, y < 256 := by decide
            exact this y (hy ▸ List.getElem_mem hk16)
          rw [hx] at hix HY
          rw [hy] at hiy HY
          have HX := Lib.hid hx
          have HZ := Lib.hid hy
          clear hx hy
          by_cases hxr : (x : Int) = r
          · have HXR := Lib.hid hxr
            have t : ((x : Int) == r) = true := by rw [hxr]; simp
            clear hxr
            go_wp2_with fail
            go_ret
            exact ⟨ret_i64 (HY.out (.inl HXR.out)), rfl⟩
          · have t : ((x : Int) == r) = false := by simpa using hxr
            have HXR := Lib.hid hxr
            clear hxr
            by_cases hyr : (y : Int) = r
            · have HYR := Lib.hid hyr
              have t' : ((y : Int) == r) = true := by rw [hyr]; simp
              clear hyr
              go_wp2_with fail
              go_ret
              exact ⟨ret_i64 (HY.out (.inr HYR.out)), rfl⟩
            · have t' : ((y : Int) == r) = false := by simpa using hyr
              have HYR := Lib.hid hyr
              clear hyr
              go_wp2_with fail
              go_round
              case rel =>
                refine ⟨k + 1, by omega, by go_num, fun j hj h => ?_⟩
                rcases Nat.lt_or_ge j k with h5 | h5
                · exact HNO.out j hj h5
                · obtain rfl : j = k := by omega
                  rw [HX.out, HZ.out]; exact ⟨HXR.out, HYR.out⟩
              case measure => simp [intOf]; omega
        · have hk16 : k = 16 := by omega
          subst hk16
          go_wp2_with fail
          go_ret
          exact ⟨ret_i64 (dig_miss r 16 (by omega) (.inr rfl) HNO.out), rfl⟩
  · have b1 : b ≠ 10 := by omega
    have b2 : b ≠ 16 := by omega
    have t1 : (b != 10) = true := by simp [b1]
    have t2 : (b != 16) = true := by simp [b2]
    go_enter Tryd.func153, Tryd.ntmps153
    go_wp2_with fail
    go_ret
    exact ⟨ret_i64 (by unfold digN; rw [if_neg (by omega)]), rfl⟩
end Go.Proofs.YtcpdllghlbdhiaaDoor
