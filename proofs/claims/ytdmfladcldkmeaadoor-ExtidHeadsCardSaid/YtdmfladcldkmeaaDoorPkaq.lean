/- External identifiers, by the program. External identifiers, by the program: those of the system, and public ones. External identifiers, by the program: public ones, and all. External identifiers, by the document. External identifiers, by the document: public ones. -/
import Derived.Lib.SmallJoins
import Derived.Test.YtdmfladcldkmeaaDoorPkap
namespace Go.Proofs.YtdmfladcldkmeaaDoor
open Go.ChangeShapes Go.WideShapes Go.ChangeAt Go.RowKit
set_option linter.unusedVariables false
set_option maxRecDepth 100000

/-- A block of two cells that is known whole. -/
def Two (w : World) (b : Nat) (v0 v1 : Value) (T : TypeId) : Prop := w.heap[b]? = some (.cells #[v0, v1] T (0, 0))
theorem Two.at {w : World} {b : Nat} {v0 v1 : Value} {T : TypeId} (h : Two w b v0 v1 T) : w.cell? ⟨b, 0, none⟩ = some v0 ∧ w.cell? ⟨b, 1, none⟩ = some v1 ∧ w.frozen? ⟨b, 0, none⟩ = false ∧ w.frozen? ⟨b, 1, none⟩ = false := by
  unfold Two at h
  exact ⟨by simp [World.cell?, h], by simp [World.cell?, h], by simp [World.frozen?, h], by simp [World.frozen?, h]⟩
theorem Two.lt {w : World} {b : Nat} {v0 v1 : Value} {T : TypeId} (h : Two w b v0 v1 T) : b < w.heap.size := (Array.getElem?_eq_some_iff.1 h).1
theorem Two.below {w w' : World} {b : Nat} {v0 v1 : Value} {T : TypeId} (h : Two w b v0 v1 T) (hb : Below w.heap.size w w') : Two w' b v0 v1 T := (hb.block b h.lt).trans h
theorem Two.new (w : World) (v0 v1 : Value) (T : TypeId) (b : Nat) (hb : w.heap.size = b) : Two (w.alloc (.cells #[v0, v1] T)) b v0 v1 T := by
  subst hb; unfold Two World.alloc; simp
theorem Two.alloc {w : World} {b : Nat} {v0 v1 : Value} {T : TypeId} (h : Two w b v0 v1 T) (o : Obj) : Two (w.alloc o) b v0 v1 T := h.below ((Below.refl _ w).alloc (Nat.le_refl _) o)
theorem Two.set0 {w : World} {b : Nat} {v0 v1 : Value} {T : TypeId} (h : Two w b v0 v1 T) (u : Value) : Two (w.setCell ⟨b, 0, none⟩ u) b u v1 T := by
  unfold Two at h ⊢
  rw [Go.Joins.block_setCell h u]
  rfl
theorem Two.set1 {w : World} {b : Nat} {v0 v1 : Value} {T : TypeId} (h : Two w b v0 v1 T) (u : Value) : Two (w.setCell ⟨b, 1, none⟩ u) b v0 u T := by
  unfold Two at h ⊢
  rw [Go.Joins.block_setCell h u]
  rfl
theorem Two.far {w : World} {b b' o : Nat} {v0 v1 : Value} {T : TypeId} (h : Two w b v0 v1 T) (hne : b ≠ b') (u : Value) : Two (w.setCell ⟨b', o, none⟩ u) b v0 v1 T := by
  unfold Two at h ⊢
  rw [Below.heap_setCell _ _ _ _ (by simpa using hne)]
  exact h
theorem sysT_in {l p : List UInt8} {i : Nat} {e : Int} (h : (bbT quoT l i).2.2 = e) (h0 : e ≠ 0) : sysT l p i = noX e := by unfold sysT; rw [h, if_pos h0]
theorem sysT_ok {l p s : List UInt8} {i : Nat} {y : Int} (h : bbT quoT l i = (s, y, 0)) : sysT l p i = (p, s, y, 0) := by unfold sysT; rw [h, if_neg (by simp)]
theorem enters_quo : Enters 123 := fun _ _ => by kernel_rfl
theorem enters_pubf : Enters 121 := fun _ _ => by kernel_rfl
theorem enters_name : Enters 79 := fun _ _ => by kernel_rfl
theorem bbT_err (f : List UInt8 → Int → Trip) (hf : ∀ l k, (f l k).2.2 ≠ 0 → f l k = noT (f l k).2.2) (l : List UInt8) (i : Nat) (h : (bbT f l i).2.2 ≠ 0) : bbT f l i = noT (bbT f l i).2.2 := by
  unfold bbT at h ⊢
  split
  · rfl
  · next h1 => rw [if_neg h1] at h; exact hf _ _ h
/-- What is told where words don't do. -/
def ExtPost (x : Quad) (W : World) (e : Ending) (w' : World) : Prop := e = .returned (exV x) ∧ Below W.heap.size W w'

set_option maxHeartbeats 4000000 in
theorem exread_out (l : List UInt8) (A : Option Addr) (n c : Nat) (k : Int) (w : World) (hk : I64 k) (h : k < 0 ∨ (n : Int) < k) :
    Calls Tryd.prog 86 #[.slice A n c, .int .i64 k, .bool false] w (ExtPost (noX 3) w) := by
  have hkl := hk.1
  have hkh := hk.2
  have hR := Two.new w (.string ⟨#[]⟩) (.string ⟨#[]⟩) 59 _ rfl
  have HP := Lib.hid (show ∀ W', Below w.heap.size w W' → ExtPost (noX 3) w (.returned (.tuple #[.agg #[.string ⟨#[]⟩, .string ⟨#[]⟩], .int .i64 0, .int .i64 3])) W' from fun W' hb => ⟨rfl, hb⟩)
  obtain ⟨r0, r1, q0, q1⟩ := hR.at
  rcases h with h | h
  all_goals
    go_enter Tryd.func86, Tryd.ntmps86
    go_wp2_with fail
    (try simp only [Exit.inBlock, Exit.then])
    refine bodyPost_ret (by simp [results, Tryd.results86, go_sem]; first | rfl | done) rfl (HP.out _ ?_)
    exact (Below.refl _ w).alloc (Nat.le_refl _) _

set_option maxHeartbeats 4000000 in
theorem exread_none (l : List UInt8) (A : Option Addr) (n c j : Nat) (w : World) (hn : l.length = n) (hnc : n ≤ c) (hm : c ≤ 9223372036854775807) (hn9 : n ≤ 1000000) (hj : j ≤ n) (hs : Sees w A (vB l)) (hW : wordT (l.drop j) = []) :
    Calls Tryd.prog 86 #[.slice A n c, .int .i64 (j : Int), .bool false] w (ExtPost (noX 7) w) := by
  have HSL := fun (W : World) => slice_from W A n c j hj
  obtain ⟨A2, hA2⟩ : ∃ A2, tailA A c j = A2 := ⟨_, rfl⟩
  rw [hA2] at HSL
  have KW := Lib.hid (fun (w' : World) (hb : Below w.heap.size w w') => hW ▸ word_any (l.drop j) A2 (n - j) (c - j) w' (by rw [List.length_drop, hn]) (by omega) (by omega) (hA2 ▸ sees_tail (hs.below hb) (by omega) j))
  have hbA := ((Below.refl _ w).alloc (Nat.le_refl _) (.cells #[.string ⟨#[]⟩, .string ⟨#[]⟩] 59)).alloc (by simp) (.cells #[.string ⟨#[]⟩, .string ⟨#[]⟩] 59)
  have R0 := Lib.hid ((Two.new w (.string ⟨#[]⟩) (.string ⟨#[]⟩) 59 _ rfl).alloc (.cells #[.string ⟨#[]⟩, .string ⟨#[]⟩] 59))
  have I0 := Lib.hid (Two.new (w.alloc (.cells #[.string ⟨#[]⟩, .string ⟨#[]⟩] 59)) (.string ⟨#[]⟩) (.string ⟨#[]⟩) 59 (w.heap.size + 1) (by simp))
  have i0 : (0 : Int) ≤ (j : Int) := by omega
  have i1 : (j : Int) ≤ (n : Int) := by omega
  have HP := Lib.hid (show ∀ W', Below w.heap.size w W' → ExtPost (noX 7) w (.returned (.tuple #[.agg #[.string ⟨#[]⟩, .string ⟨#[]⟩], .int .i64 0, .int .i64 7])) W' from fun W' hb => ⟨rfl, hb⟩)
  clear hs hn hA2 hW
  go_enter Tryd.func86, Tryd.ntmps86
  go_wp2_with fail
  refine (KW.out _ hbA).mono ?_
  rintro e w1 ⟨rfl, hb1⟩
  have hB1 := Lib.hid (hbA.trans (hb1.mono hbA.size))
  have R1 := Lib.hid (R0.out.below hb1)
  have I1 := Lib.hid (I0.out.below hb1)
  clear hb1
  go_wp2_with fail
  refine (KW.out _ hB1.out).mono ?_
  rintro e w2 ⟨rfl, hb2⟩
  have hB2 := Lib.hid (hB1.out.trans (hb2.mono hB1.out.size))
  have R2 := Lib.hid (R1.out.below hb2)
  have I2 := Lib.hid (I1.out.below hb2)
  clear hb2
  obtain ⟨r0, r1, q0, q1⟩ := R2.out.at
  obtain ⟨s0, s1, _, _⟩ := ((R2.out.set0 (.string ⟨#[]⟩)).set1 (.string ⟨#[]⟩)).at
  go_wp2_with fail
  (try simp only [Exit.inBlock, Exit.then])
  refine bodyPost_ret (by simp [results, Tryd.results86, go_sem, s0, s1]; first | rfl | done) rfl (HP.out _ ?_)
  exact (hB2.out.setCell (Nat.le_refl _) _).setCell (Nat.le_refl _) _
end Go.Proofs.YtdmfladcldkmeaaDoor
namespace Go.Proofs.YtdmfladcldkmeaaDoor
open Go.ChangeShapes Go.WideShapes Go.ChangeAt Go.RowKit
set_option linter.unusedVariables false
set_option maxRecDepth 100000

theorem quo_bb (l : List UInt8) (A : Option Addr) (n c i : Nat) (w : World) (hn : l.length = n) (hnc : n ≤ c) (hm : c ≤ 9223372036854775807) (hn9 : n ≤ 1000000) (hi : i ≤ n) (hs : Sees w A (vB l)) :
    Calls Tryd.prog 78 #[.slice A n c, .int .i64 (i : Int), .func (.func 123) #[] #[]] w fun e w' => e = .returned (trV (bbT quoT l i)) ∧ Below w.heap.size w w' :=
  bb_any 123 quoT l A n c i w hn hnc hn9 hi hs enters_quo (fun w' k hb hk => quoted_any l A n c (k : Int) w' hn hnc hm ⟨by omega, by omega⟩ hn9 (hs.below hb))
theorem pub_bb (l : List UInt8) (A : Option Addr) (n c i : Nat) (w : World) (hn : l.length = n) (hnc : n ≤ c) (hm : c ≤ 9223372036854775807) (hn9 : n ≤ 1000000) (hi : i ≤ n) (hs : Sees w A (vB l)) (ht : TabP w) :
    Calls Tryd.prog 78 #[.slice A n c, .int .i64 (i : Int), .func (.func 121) #[] #[]] w fun e w' => e = .returned (trV (bbT pubT l i)) ∧ Below w.heap.size w w' :=
  bb_any 121 pubT l A n c i w hn hnc hn9 hi hs enters_pubf (fun w' k hb hk => litPublic_anyP l A n c (k : Int) w' hn hnc hm ⟨by omega, by omega⟩ hn9 (hs.below hb) (ht.below hb))
theorem quo_bbT (l : List UInt8) (A : Option Addr) (n c i : Nat) (k : Int) (w : World) (hk : k = (i : Nat)) {s : List UInt8} {y e0 : Int} (hq : bbT quoT l i = (s, y, e0)) (hn : l.length = n) (hnc : n ≤ c) (hm : c ≤ 9223372036854775807) (hn9 : n ≤ 1000000) (hi : i ≤ n) (hs : Sees w A (vB l)) :
    Calls Tryd.prog 78 #[.slice A n c, .int .i64 k, .func (.func 123) #[] #[]] w fun e w' => e = .returned (.tuple #[strV s, .int .i64 y, .int .i64 e0]) ∧ Below w.heap.size w w' := by
  subst hk
  have h := quo_bb l A n c i w hn hnc hm hn9 hi hs
  rw [hq] at h
  exact h
theorem pub_bbT (l : List UInt8) (A : Option Addr) (n c i : Nat) (k : Int) (w : World) (hk : k = (i : Nat)) {s : List UInt8} {y e0 : Int} (hq : bbT pubT l i = (s, y, e0)) (hn : l.length = n) (hnc : n ≤ c) (hm : c ≤ 9223372036854775807) (hn9 : n ≤ 1000000) (hi : i ≤ n) (hs : Sees w A (vB l)) (ht : TabP w) :
    Calls Tryd.prog 78 #[.slice A n c, .int .i64 k, .func (.func 121) #[] #[]] w fun e w' => e = .returned (.tuple #[strV s, .int .i64 y, .int .i64 e0]) ∧ Below w.heap.size w w' := by
  subst hk
  have h := pub_bb l A n c i w hn hnc hm hn9 hi hs ht
  rw [hq] at h
  exact h

set_option maxHeartbeats 8000000 in
theorem exread_sysok (l : List UInt8) (A : Option Addr) (n c j : Nat) (w : World) (hn : l.length = n) (hnc : n ≤ c) (hm : c ≤ 9223372036854775807) (hn9 : n ≤ 1000000) (hj6 : j + 6 ≤ n) (hs : Sees w A (vB l)) (hW : wordT (l.drop j) = [83, 89, 83, 84, 69, 77]) (s : List UInt8) (y : Int) (hq : bbT quoT l (j + 6) = (s, y, 0)) :
    Calls Tryd.prog 86 #[.slice A n c, .int .i64 (j : Int), .bool false] w (ExtPost (([], s, y, 0)) w) := by
  have hj : j ≤ n := by omega
  have HSL := fun (W : World) => slice_from W A n c j hj
  obtain ⟨A2, hA2⟩ : ∃ A2, tailA A c j = A2 := ⟨_, rfl⟩
  rw [hA2] at HSL
  have KW := Lib.hid (fun (w' : World) (hb : Below w.heap.size w w') => hW ▸ word_any (l.drop j) A2 (n - j) (c - j) w' (by rw [List.length_drop, hn]) (by omega) (by omega) (hA2 ▸ sees_tail (hs.below hb) (by omega) j))
  have hbA := ((Below.refl _ w).alloc (Nat.le_refl _) (.cells #[.string ⟨#[]⟩, .string ⟨#[]⟩] 59)).alloc (by simp) (.cells #[.string ⟨#[]⟩, .string ⟨#[]⟩] 59)
  have R0 := Lib.hid ((Two.new w (.string ⟨#[]⟩) (.string ⟨#[]⟩) 59 _ rfl).alloc (.cells #[.string ⟨#[]⟩, .string ⟨#[]⟩] 59))
  have I0 := Lib.hid (Two.new (w.alloc (.cells #[.string ⟨#[]⟩, .string ⟨#[]⟩] 59)) (.string ⟨#[]⟩) (.string ⟨#[]⟩) 59 (w.heap.size + 1) (by simp))
  have i0 : (0 : Int) ≤ (j : Int) := by omega
  have i1 : (j : Int) ≤ (n : Int) := by omega
  have HP := Lib.hid (show ∀ W', Below w.heap.size w W' → ExtPost (([], s, y, 0)) w (.returned (.tuple #[.agg #[.string ⟨#[]⟩, strV s], .int .i64 y, .int .i64 0])) W' from fun W' hb => ⟨rfl, hb⟩)
  have KQ := Lib.hid (fun (w' : World) (hb : Below w.heap.size w w') => quo_bbT l A n c (j + 6) ((j : Int) + 6) w' (by omega) hq hn hnc hm hn9 hj6 (hs.below hb))

  clear hs hn hA2 hW hq
  go_enter Tryd.func86, Tryd.ntmps86
  go_wp2_with fail
  refine (KW.out _ hbA).mono ?_
  rintro e w1 ⟨rfl, hb1⟩
  have hB1 := Lib.hid (hbA.trans (hb1.mono hbA.size))
  have R1 := Lib.hid (R0.out.below hb1)
  have I1 := Lib.hid (I0.out.below hb1)
  clear hb1
  go_wp2_with fail
  refine (KW.out _ hB1.out).mono ?_
  rintro e w2 ⟨rfl, hb2⟩
  have hB2 := Lib.hid (hB1.out.trans (hb2.mono hB1.out.size))
  have R2 := Lib.hid (R1.out.below hb2)
  have I2 := Lib.hid (I1.out.below hb2)
  clear hb2
  go_wp2_with fail
  refine (KQ.out _ hB2.out).mono ?_
  rintro e w3 ⟨rfl, hb3⟩
  have hB3 := Lib.hid (hB2.out.trans (hb3.mono hB2.out.size))
  have R3 := Lib.hid (R2.out.below hb3)
  have I3 := Lib.hid (I2.out.below hb3)
  clear hb3
  obtain ⟨r0, r1, q0, q1⟩ := R3.out.at
  obtain ⟨x0, x1, v0, v1⟩ := I3.out.at
  obtain ⟨s0, s1, _, _⟩ := (((R3.out.far (b' := w.heap.size + 1) (o := 1) (by omega) (strV s)).set0 (.string ⟨#[]⟩)).set1 (strV s)).at
  go_wp2_with fail
  (try simp only [Exit.inBlock, Exit.then])
  refine bodyPost_ret (by simp [results, Tryd.results86, go_sem, s0, s1]; first | rfl | done) rfl (HP.out _ ?_)
  exact ((hB3.out.setCell (by simp) _).setCell (Nat.le_refl _) _).setCell (Nat.le_refl _) _

set_option maxHeartbeats 8000000 in
theorem exread_sysno (l : List UInt8) (A : Option Addr) (n c j : Nat) (w : World) (hn : l.length = n) (hnc : n ≤ c) (hm : c ≤ 9223372036854775807) (hn9 : n ≤ 1000000) (hj6 : j + 6 ≤ n) (hs : Sees w A (vB l)) (hW : wordT (l.drop j) = [83, 89, 83, 84, 69, 77]) (e0 : Int) (h0 : e0 ≠ 0) (hq : bbT quoT l (j + 6) = noT e0) :
    Calls Tryd.prog 86 #[.slice A n c, .int .i64 (j : Int), .bool false] w (ExtPost (noX e0) w) := by
  have hj : j ≤ n := by omega
  have HSL := fun (W : World) => slice_from W A n c j hj
  obtain ⟨A2, hA2⟩ : ∃ A2, tailA A c j = A2 := ⟨_, rfl⟩
  rw [hA2] at HSL
  have KW := Lib.hid (fun (w' : World) (hb : Below w.heap.size w w') => hW ▸ word_any (l.drop j) A2 (n - j) (c - j) w' (by rw [List.length_drop, hn]) (by omega) (by omega) (hA2 ▸ sees_tail (hs.below hb) (by omega) j))
  have hbA := ((Below.refl _ w).alloc (Nat.le_refl _) (.cells #[.string ⟨#[]⟩, .string ⟨#[]⟩] 59)).alloc (by simp) (.cells #[.string ⟨#[]⟩, .string ⟨#[]⟩] 59)
  have R0 := Lib.hid ((Two.new w (.string ⟨#[]⟩) (.string ⟨#[]⟩) 59 _ rfl).alloc (.cells #[.string ⟨#[]⟩, .string ⟨#[]⟩] 59))
  have I0 := Lib.hid (Two.new (w.alloc (.cells #[.string ⟨#[]⟩, .string ⟨#[]⟩] 59)) (.string ⟨#[]⟩) (.string ⟨#[]⟩) 59 (w.heap.size + 1) (by simp))
  have i0 : (0 : Int) ≤ (j : Int) := by omega
  have i1 : (j : Int) ≤ (n : Int) := by omega
  have HP := Lib.hid (show ∀ W', Below w.heap.size w W' → ExtPost (noX e0) w (.returned (.tuple #[.agg #[.string ⟨#[]⟩, .string ⟨#[]⟩], .int .i64 0, .int .i64 e0])) W' from fun W' hb => ⟨rfl, hb⟩)
  have KQ := Lib.hid (fun (w' : World) (hb : Below w.heap.size w w') => quo_bbT l A n c (j + 6) ((j : Int) + 6) w' (by omega) hq hn hnc hm hn9 hj6 (hs.below hb))
  have t0 : (e0 != 0) = true := by simpa using h0
  clear hs hn hA2 hW hq h0
  go_enter Tryd.func86, Tryd.ntmps86
  go_wp2_with fail
  refine (KW.out _ hbA).mono ?_
  rintro e w1 ⟨rfl, hb1⟩
  have hB1 := Lib.hid (hbA.trans (hb1.mono hbA.size))
  have R1 := Lib.hid (R0.out.below hb1)
  have I1 := Lib.hid (I0.out.below hb1)
  clear hb1
  go_wp2_with fail
  refine (KW.out _ hB1.out).mono ?_
  rintro e w2 ⟨rfl, hb2⟩
  have hB2 := Lib.hid (hB1.out.trans (hb2.mono hB1.out.size))
  have R2 := Lib.hid (R1.out.below hb2)
  have I2 := Lib.hid (I1.out.below hb2)
  clear hb2
  go_wp2_with fail
  refine (KQ.out _ hB2.out).mono ?_
  rintro e w3 ⟨rfl, hb3⟩
  have hB3 := Lib.hid (hB2.out.trans (hb3.mono hB2.out.size))
  have R3 := Lib.hid (R2.out.below hb3)
  have I3 := Lib.hid (I2.out.below hb3)
  clear hb3
  obtain ⟨r0, r1, q0, q1⟩ := R3.out.at
  obtain ⟨x0, x1, v0, v1⟩ := I3.out.at
  obtain ⟨s0, s1, _, _⟩ := (((R3.out.far (b' := w.heap.size + 1) (o := 1) (by omega) (strV [])).set0 (.string ⟨#[]⟩)).set1 (.string ⟨#[]⟩)).at
  go_wp2_with fail
  (try simp only [Exit.inBlock, Exit.then])
  refine bodyPost_ret (by simp [results, Tryd.results86, go_sem, s0, s1]; first | rfl | done) rfl (HP.out _ ?_)
  exact ((hB3.out.setCell (by simp) _).setCell (Nat.le_refl _) _).setCell (Nat.le_refl _) _
end Go.Proofs.YtdmfladcldkmeaaDoor
namespace Go.Proofs.YtdmfladcldkmeaaDoor
open Go.ChangeShapes Go.WideShapes Go.ChangeAt Go.RowKit
set_option linter.unusedVariables false
set_option maxRecDepth 100000

set_option maxHeartbeats 8000000 in
theorem exread_pubno (l : List UInt8) (A : Option Addr) (n c j : Nat) (w : World) (hn : l.length = n) (hnc : n ≤ c) (hm : c ≤ 9223372036854775807) (hn9 : n ≤ 1000000) (hj6 : j + 6 ≤ n) (hs : Sees w A (vB l)) (ht : TabP w) (hW : wordT (l.drop j) = [80, 85, 66, 76, 73, 67]) (e0 : Int) (h0 : e0 ≠ 0) (hp : bbT pubT l (j + 6) = noT e0) :
    Calls Tryd.prog 86 #[.slice A n c, .int .i64 (j : Int), .bool false] w (ExtPost (noX e0) w) := by
  have hj : j ≤ n := by omega
  have HSL := fun (W : World) => slice_from W A n c j hj
  obtain ⟨A2, hA2⟩ : ∃ A2, tailA A c j = A2 := ⟨_, rfl⟩
  rw [hA2] at HSL
  have KW := Lib.hid (fun (w' : World) (hb : Below w.heap.size w w') => hW ▸ word_any (l.drop j) A2 (n - j) (c - j) w' (by rw [List.length_drop, hn]) (by omega) (by omega) (hA2 ▸ sees_tail (hs.below hb) (by omega) j))
  have hbA := ((Below.refl _ w).alloc (Nat.le_refl _) (.cells #[.string ⟨#[]⟩, .string ⟨#[]⟩] 59)).alloc (by simp) (.cells #[.string ⟨#[]⟩, .string ⟨#[]⟩] 59)
  have R0 := Lib.hid ((Two.new w (.string ⟨#[]⟩) (.string ⟨#[]⟩) 59 _ rfl).alloc (.cells #[.string ⟨#[]⟩, .string ⟨#[]⟩] 59))
  have I0 := Lib.hid (Two.new (w.alloc (.cells #[.string ⟨#[]⟩, .string ⟨#[]⟩] 59)) (.string ⟨#[]⟩) (.string ⟨#[]⟩) 59 (w.heap.size + 1) (by simp))
  have i0 : (0 : Int) ≤ (j : Int) := by omega
  have i1 : (j : Int) ≤ (n : Int) := by omega
  have HP := Lib.hid (show ∀ W', Below w.heap.size w W' → ExtPost (noX e0) w (.returned (.tuple #[.agg #[.string ⟨#[]⟩, .string ⟨#[]⟩], .int .i64 0, .int .i64 e0])) W' from fun W' hb => ⟨rfl, hb⟩)
  have KP := Lib.hid (fun (w' : World) (hb : Below w.heap.size w w') => pub_bbT l A n c (j + 6) ((j : Int) + 6) w' (by omega) hp hn hnc hm hn9 hj6 (hs.below hb) (ht.below hb))
  have t0 : (e0 != 0) = true := by simpa using h0
  clear hs hn hA2 hW hp ht h0
  go_enter Tryd.func86, Tryd.ntmps86
  go_wp2_with fail
  refine (KW.out _ hbA).mono ?_
  rintro e w1 ⟨rfl, hb1⟩
  have hB1 := Lib.hid (hbA.trans (hb1.mono hbA.size))
  have R1 := Lib.hid (R0.out.below hb1)
  have I1 := Lib.hid (I0.out.below hb1)
  clear hb1
  go_wp2_with fail
  refine (KW.out _ hB1.out).mono ?_
  rintro e w2 ⟨rfl, hb2⟩
  have hB2 := Lib.hid (hB1.out.trans (hb2.mono hB1.out.size))
  have R2 := Lib.hid (R1.out.below hb2)
  have I2 := Lib.hid (I1.out.below hb2)
  clear hb2
  go_wp2_with fail
  refine (KP.out _ hB2.out).mono ?_
  rintro e w3 ⟨rfl, hb3⟩
  have hB3 := Lib.hid (hB2.out.trans (hb3.mono hB2.out.size))
  have R3 := Lib.hid (R2.out.below hb3)
  have I3 := Lib.hid (I2.out.below hb3)
  clear hb3
  obtain ⟨r0, r1, q0, q1⟩ := R3.out.at
  obtain ⟨x0, x1, v0, v1⟩ := I3.out.at
  obtain ⟨s0, s1, _, _⟩ := (((R3.out.far (b' := w.heap.size + 1) (o := 0) (by omega) (strV [])).set0 (.string ⟨#[]⟩)).set1 (.string ⟨#[]⟩)).at
  go_wp2_with fail
  (try simp only [Exit.inBlock, Exit.then])
  refine bodyPost_ret (by simp [results, Tryd.results86, go_sem, s0, s1]; first | rfl | done) rfl (HP.out _ ?_)
  exact ((hB3.out.setCell (by simp) _).setCell (Nat.le_refl _) _).setCell (Nat.le_refl _) _

set_option maxHeartbeats 8000000 in
theorem exread_pubsys (l : List UInt8) (A : Option Addr) (n c j : Nat) (w : World) (hn : l.length = n) (hnc : n ≤ c) (hm : c ≤ 9223372036854775807) (hn9 : n ≤ 1000000) (hj6 : j + 6 ≤ n) (hs : Sees w A (vB l)) (ht : TabP w) (hW : wordT (l.drop j) = [80, 85, 66, 76, 73, 67]) (p : List UInt8) (z : Nat) (e0 : Int) (h0 : e0 ≠ 0) (hz : z ≤ n) (hp : bbT pubT l (j + 6) = (p, (z : Int), 0)) (hq : bbT quoT l z = noT e0) :
    Calls Tryd.prog 86 #[.slice A n c, .int .i64 (j : Int), .bool false] w (ExtPost (noX e0) w) := by
  have hj : j ≤ n := by omega
  have HSL := fun (W : World) => slice_from W A n c j hj
  obtain ⟨A2, hA2⟩ : ∃ A2, tailA A c j = A2 := ⟨_, rfl⟩
  rw [hA2] at HSL
  have KW := Lib.hid (fun (w' : World) (hb : Below w.heap.size w w') => hW ▸ word_any (l.drop j) A2 (n - j) (c - j) w' (by rw [List.length_drop, hn]) (by omega) (by omega) (hA2 ▸ sees_tail (hs.below hb) (by omega) j))
  have hbA := ((Below.refl _ w).alloc (Nat.le_refl _) (.cells #[.string ⟨#[]⟩, .string ⟨#[]⟩] 59)).alloc (by simp) (.cells #[.string ⟨#[]⟩, .string ⟨#[]⟩] 59)
  have R0 := Lib.hid ((Two.new w (.string ⟨#[]⟩) (.string ⟨#[]⟩) 59 _ rfl).alloc (.cells #[.string ⟨#[]⟩, .string ⟨#[]⟩] 59))
  have I0 := Lib.hid (Two.new (w.alloc (.cells #[.string ⟨#[]⟩, .string ⟨#[]⟩] 59)) (.string ⟨#[]⟩) (.string ⟨#[]⟩) 59 (w.heap.size + 1) (by simp))
  have i0 : (0 : Int) ≤ (j : Int) := by omega
  have i1 : (j : Int) ≤ (n : Int) := by omega
  have HP := Lib.hid (show ∀ W', Below w.heap.size w W' → ExtPost (noX e0) w (.returned (.tuple #[.agg #[.string ⟨#[]⟩, .string ⟨#[]⟩], .int .i64 0, .int .i64 e0])) W' from fun W' hb => ⟨rfl, hb⟩)
  have KP := Lib.hid (fun (w' : World) (hb : Below w.heap.size w w') => pub_bbT l A n c (j + 6) ((j : Int) + 6) w' (by omega) hp hn hnc hm hn9 hj6 (hs.below hb) (ht.below hb))
  have KQ := Lib.hid (fun (w' : World) (hb : Below w.heap.size w w') => quo_bbT l A n c z (z : Int) w' rfl hq hn hnc hm hn9 hz (hs.below hb))
  have t0 : (e0 != 0) = true := by simpa using h0
  clear hs hn hA2 hW hp ht h0 hq
  go_enter Tryd.func86, Tryd.ntmps86
  go_wp2_with fail
  refine (KW.out _ hbA).mono ?_
  rintro e w1 ⟨rfl, hb1⟩
  have hB1 := Lib.hid (hbA.trans (hb1.mono hbA.size))
  have R1 := Lib.hid (R0.out.below hb1)
  have I1 := Lib.hid (I0.out.below hb1)
  clear hb1
  go_wp2_with fail
  refine (KW.out _ hB1.out).mono ?_
  rintro e w2 ⟨rfl, hb2⟩
  have hB2 := Lib.hid (hB1.out.trans (hb2.mono hB1.out.size))
  have R2 := Lib.hid (R1.out.below hb2)
  have I2 := Lib.hid (I1.out.below hb2)
  clear hb2
  go_wp2_with fail
  refine (KP.out _ hB2.out).mono ?_
  rintro e w3 ⟨rfl, hb3⟩
  have hB3 := Lib.hid (hB2.out.trans (hb3.mono hB2.out.size))
  have R3 := Lib.hid (R2.out.below hb3)
  have I3 := Lib.hid (I2.out.below hb3)
  clear hb3
  obtain ⟨r0, r1, q0, q1⟩ := R3.out.at
  obtain ⟨x0, x1, v0, v1⟩ := I3.out.at
  obtain ⟨W3, hW3⟩ : ∃ W3, w3.setCell ⟨w.heap.size + 1, 0, none⟩ (strV p) = W3 := ⟨_, rfl⟩
  have hB4 := Lib.hid (show Below w.heap.size w W3 from hW3 ▸ hB3.out.setCell (by simp) _)
  have R4 := Lib.hid (show Two W3 _ _ _ _ from hW3 ▸ R3.out.far (b' := w.heap.size + 1) (o := 0) (by omega) (strV p))
  have I4 := Lib.hid (show Two W3 _ _ _ _ from hW3 ▸ I3.out.set0 (strV p))
  go_wp2_with fail
  (try rw [hW3])
  clear hW3 r0 r1 q0 q1 x0 x1 v0 v1
  refine (KQ.out W3 hB4.out).mono ?_
  rintro e w4 ⟨rfl, hb4⟩
  have hB5 := Lib.hid (hB4.out.trans (hb4.mono hB4.out.size))
  have R5 := Lib.hid (R4.out.below hb4)
  have I5 := Lib.hid (I4.out.below hb4)
  clear hb4
  obtain ⟨r0, r1, q0, q1⟩ := R5.out.at
  obtain ⟨x0, x1, v0, v1⟩ := I5.out.at
  obtain ⟨s0, s1, _, _⟩ := (((R5.out.far (b' := w.heap.size + 1) (o := 1) (by omega) (strV [])).set0 (.string ⟨#[]⟩)).set1 (.string ⟨#[]⟩)).at
  go_wp2_with fail
  (try simp only [Exit.inBlock, Exit.then])
  refine bodyPost_ret (by simp [results, Tryd.results86, go_sem, s0, s1]; first | rfl | done) rfl (HP.out _ ?_)
  exact ((hB5.out.setCell (by simp) _).setCell (Nat.le_refl _) _).setCell (Nat.le_refl _) _

set_option maxHeartbeats 8000000 in
theorem exread_pubok (l : List UInt8) (A : Option Addr) (n c j : Nat) (w : World) (hn : l.length = n) (hnc : n ≤ c) (hm : c ≤ 9223372036854775807) (hn9 : n ≤ 1000000) (hj6 : j + 6 ≤ n) (hs : Sees w A (vB l)) (ht : TabP w) (hW : wordT (l.drop j) = [80, 85, 66, 76, 73, 67]) (p s : List UInt8) (z : Nat) (y : Int) (hz : z ≤ n) (hp : bbT pubT l (j + 6) = (p, (z : Int), 0)) (hq : bbT quoT l z = (s, y, 0)) :
    Calls Tryd.prog 86 #[.slice A n c, .int .i64 (j : Int), .bool false] w (ExtPost ((p, s, y, 0)) w) := by
  have hj : j ≤ n := by omega
  have HSL := fun (W : World) => slice_from W A n c j hj
  obtain ⟨A2, hA2⟩ : ∃ A2, tailA A c j = A2 := ⟨_, rfl⟩
  rw [hA2] at HSL
  have KW := Lib.hid (fun (w' : World) (hb : Below w.heap.size w w') => hW ▸ word_any (l.drop j) A2 (n - j) (c - j) w' (by rw [List.length_drop, hn]) (by omega) (by omega) (hA2 ▸ sees_tail (hs.below hb) (by omega) j))
  have hbA := ((Below.refl _ w).alloc (Nat.le_refl _) (.cells #[.string ⟨#[]⟩, .string ⟨#[]⟩] 59)).alloc (by simp) (.cells #[.string ⟨#[]⟩, .string ⟨#[]⟩] 59)
  have R0 := Lib.hid ((Two.new w (.string ⟨#[]⟩) (.string ⟨#[]⟩) 59 _ rfl).alloc (.cells #[.string ⟨#[]⟩, .string ⟨#[]⟩] 59))
  have I0 := Lib.hid (Two.new (w.alloc (.cells #[.string ⟨#[]⟩, .string ⟨#[]⟩] 59)) (.string ⟨#[]⟩) (.string ⟨#[]⟩) 59 (w.heap.size + 1) (by simp))
  have i0 : (0 : Int) ≤ (j : Int) := by omega
  have i1 : (j : Int) ≤ (n : Int) := by omega
  have HP := Lib.hid (show ∀ W', Below w.heap.size w W' → ExtPost ((p, s, y, 0)) w (.returned (.tuple #[.agg #[strV p, strV s], .int .i64 y, .int .i64 0])) W' from fun W' hb => ⟨rfl, hb⟩)
  have KP := Lib.hid (fun (w' : World) (hb : Below w.heap.size w w') => pub_bbT l A n c (j + 6) ((j : Int) + 6) w' (by omega) hp hn hnc hm hn9 hj6 (hs.below hb) (ht.below hb))
  have KQ := Lib.hid (fun (w' : World) (hb : Below w.heap.size w w') => quo_bbT l A n c z (z : Int) w' rfl hq hn hnc hm hn9 hz (hs.below hb))
  clear hs hn hA2 hW hp ht hq
  go_enter Tryd.func86, Tryd.ntmps86
  go_wp2_with fail
  refine (KW.out _ hbA).mono ?_
  rintro e w1 ⟨rfl, hb1⟩
  have hB1 := Lib.hid (hbA.trans (hb1.mono hbA.size))
  have R1 := Lib.hid (R0.out.below hb1)
  have I1 := Lib.hid (I0.out.below hb1)
  clear hb1
  go_wp2_with fail
  refine (KW.out _ hB1.out).mono ?_
  rintro e w2 ⟨rfl, hb2⟩
  have hB2 := Lib.hid (hB1.out.trans (hb2.mono hB1.out.size))
  have R2 := Lib.hid (R1.out.below hb2)
  have I2 := Lib.hid (I1.out.below hb2)
  clear hb2
  go_wp2_with fail
  refine (KP.out _ hB2.out).mono ?_
  rintro e w3 ⟨rfl, hb3⟩
  have hB3 := Lib.hid (hB2.out.trans (hb3.mono hB2.out.size))
  have R3 := Lib.hid (R2.out.below hb3)
  have I3 := Lib.hid (I2.out.below hb3)
  clear hb3
  obtain ⟨r0, r1, q0, q1⟩ := R3.out.at
  obtain ⟨x0, x1, v0, v1⟩ := I3.out.at
  obtain ⟨W3, hW3⟩ : ∃ W3, w3.setCell ⟨w.heap.size + 1, 0, none⟩ (strV p) = W3 := ⟨_, rfl⟩
  have hB4 := Lib.hid (show Below w.heap.size w W3 from hW3 ▸ hB3.out.setCell (by simp) _)
  have R4 := Lib.hid (show Two W3 _ _ _ _ from hW3 ▸ R3.out.far (b' := w.heap.size + 1) (o := 0) (by omega) (strV p))
  have I4 := Lib.hid (show Two W3 _ _ _ _ from hW3 ▸ I3.out.set0 (strV p))
  go_wp2_with fail
  (try rw [hW3])
  clear hW3 r0 r1 q0 q1 x0 x1 v0 v1
  refine (KQ.out W3 hB4.out).mono ?_
  rintro e w4 ⟨rfl, hb4⟩
  have hB5 := Lib.hid (hB4.out.trans (hb4.mono hB4.out.size))
  have R5 := Lib.hid (R4.out.below hb4)
  have I5 := Lib.hid (I4.out.below hb4)
  clear hb4
  obtain ⟨r0, r1, q0, q1⟩ := R5.out.at
  obtain ⟨x0, x1, v0, v1⟩ := I5.out.at
  obtain ⟨s0, s1, _, _⟩ := (((R5.out.far (b' := w.heap.size + 1) (o := 1) (by omega) (strV s)).set0 (strV p)).set1 (strV s)).at
  go_wp2_with fail
  (try simp only [Exit.inBlock, Exit.then])
  refine bodyPost_ret (by simp [results, Tryd.results86, go_sem, s0, s1]; first | rfl | done) rfl (HP.out _ ?_)
  exact ((hB5.out.setCell (by simp) _).setCell (Nat.le_refl _) _).setCell (Nat.le_refl _) _

theorem bbT_go {f : List UInt8 → Int → Trip} (hf : ∀ (l : List UInt8) (k : Nat), k ≤ l.length → (f l (k : Int)).2.2 = 0 → ∃ b : Nat, (f l (k : Int)).2.1 = b ∧ k < b ∧ b ≤ l.length) {l : List UInt8} {i : Nat} (hi : i ≤ l.length) (h : (bbT f l i).2.2 = 0) : ∃ b : Nat, (bbT f l i).2.1 = b ∧ i < b ∧ b ≤ l.length := by
  have hb := blkN_le l l.length i hi
  unfold bbT at h ⊢
  split
  · next h1 => rw [if_pos h1] at h; exact absurd h (by show (7 : Int) ≠ 0; omega)
  · next h1 =>
    rw [if_neg h1] at h
    obtain ⟨b, h2, h3, h4⟩ := hf l _ hb.2 h
    exact ⟨b, h2, by omega, h4⟩
/-- An external identifier, by the program. -/
theorem exread_any (l : List UInt8) (A : Option Addr) (n c : Nat) (k : Int) (w : World) (hn : l.length = n) (hnc : n ≤ c) (hm : c ≤ 9223372036854775807) (hn9 : n ≤ 1000000) (hk : I64 k) (hs : Sees w A (vB l)) (ht : TabP w) :
    Calls Tryd.prog 86 #[.slice A n c, .int .i64 k, .bool false] w fun e w' => e = .returned (exV (extT l k)) ∧ Below w.heap.size w w' := by
  by_cases hout : k < 0 ∨ (n : Int) < k
  · have hv : extT l k = noX 3 := by unfold extT; rw [if_pos (by rw [hn]; exact hout)]
    rw [hv]
    exact exread_out l A n c k w hk hout
  · obtain ⟨j, rfl⟩ : ∃ j : Nat, k = j := ⟨k.toNat, by omega⟩
    have hj : j ≤ n := by omega
    obtain ⟨w1, w2, w3⟩ := word_at l j
    unfold extT
    rw [if_neg (by rw [hn]; exact hout), Int.toNat_natCast]
    cases h1 : atB l (j : Int) sysW with
    | true =>
      rw [if_pos rfl]
      have h6 : j + 6 ≤ n := by have := atB_fit h1 (by simp [sysW]); simp [sysW] at this; omega
      by_cases h0 : (bbT quoT l (j + 6)).2.2 = 0
      · obtain ⟨s, y, e0, hq⟩ : ∃ s y e0, bbT quoT l (j + 6) = (s, y, e0) := ⟨_, _, _, rfl⟩
        have : e0 = 0 := by rw [hq] at h0; exact h0
        subst this
        rw [sysT_ok hq]
        exact exread_sysok l A n c j w hn hnc hm hn9 h6 hs (w1 h1) s y hq
      · rw [sysT_in rfl h0]
        exact exread_sysno l A n c j w hn hnc hm hn9 h6 hs (w1 h1) _ h0 (bbT_err quoT quoT_err l _ h0)
    | false =>
      rw [if_neg (by simp)]
      cases h2 : atB l (j : Int) pubW with
      | false =>
        rw [if_neg (by simp)]
        exact exread_none l A n c j w hn hnc hm hn9 hj hs (w3 h1 h2)
      | true =>
        rw [if_pos rfl]
        have h6 : j + 6 ≤ n := by have := atB_fit h2 (by simp [pubW]); simp [pubW] at this; omega
        by_cases h0 : (bbT pubT l (j + 6)).2.2 = 0
        · rw [if_neg (by rw [h0]; simp)]
          obtain ⟨z, hz, _, hzl⟩ := bbT_go (f := pubT) (fun l k hk h => pubT_go hk h) (by omega) h0
          obtain ⟨p, y, e0, hp⟩ : ∃ s y e0, bbT pubT l (j + 6) = (s, y, e0) := ⟨_, _, _, rfl⟩
          rw [hp] at h0 hz ⊢
          simp only at h0 hz ⊢
          subst h0; subst hz
          rw [Int.toNat_natCast]
          by_cases h4 : (bbT quoT l z).2.2 = 0
          · obtain ⟨s, y, e0, hq⟩ : ∃ s y e0, bbT quoT l z = (s, y, e0) := ⟨_, _, _, rfl⟩
            have : e0 = 0 := by rw [hq] at h4; exact h4
            subst this
            rw [sysT_ok hq]
            exact exread_pubok l A n c j w hn hnc hm hn9 h6 hs ht (w2 h1 h2) p s z y (by omega) hp hq
          · rw [sysT_in rfl h4]
            exact exread_pubsys l A n c j w hn hnc hm hn9 h6 hs ht (w2 h1 h2) p z _ h4 (by omega) hp (bbT_err quoT quoT_err l _ h4)
        · rw [if_pos h0]
          exact exread_pubno l A n c j w hn hnc hm hn9 h6 hs ht (w2 h1 h2) _ h0 (bbT_err pubT pubT_err l _ h0)
end Go.Proofs.YtdmfladcldkmeaaDoor
namespace Go.Proofs.YtdmfladcldkmeaaDoor
open Go.ChangeShapes Go.WideShapes Go.ChangeAt Go.RowKit
set_option linter.unusedVariables false
set_option maxRecDepth 100000

set_option maxHeartbeats 4000000 in
theorem rext_out (l : List UInt8) (A : Option Addr) (n c : Nat) (k : Int) (w : World) (hk : I64 k) (h : k < 0 ∨ (n : Int) < k) :
    Calls Tryd.prog 81 #[.slice A n c, .int .i64 k, .bool true] w (ExtPost (noX 3) w) := by
  have hkl := hk.1
  have hkh := hk.2
  have hR := Two.new w (.string ⟨#[]⟩) (.string ⟨#[]⟩) 59 _ rfl
  have HP := Lib.hid (show ∀ W', Below w.heap.size w W' → ExtPost (noX 3) w (.returned (.tuple #[.agg #[.string ⟨#[]⟩, .string ⟨#[]⟩], .int .i64 0, .int .i64 3])) W' from fun W' hb => ⟨rfl, hb⟩)
  obtain ⟨r0, r1, q0, q1⟩ := hR.at
  rcases h with h | h
  all_goals
    go_enter Tryd.func81, Tryd.ntmps81
    go_wp2_with fail
    (try simp only [Exit.inBlock, Exit.then])
    refine bodyPost_ret (by simp [results, Tryd.results81, go_sem]; first | rfl | done) rfl (HP.out _ ?_)
    exact (Below.refl _ w).alloc (Nat.le_refl _) _

set_option maxHeartbeats 8000000 in
theorem rext_none (l : List UInt8) (A : Option Addr) (n c j : Nat) (w : World) (hn : l.length = n) (hnc : n ≤ c) (hm : c ≤ 9223372036854775807) (hn9 : n ≤ 1000000) (hj6 : j ≤ n) (hs : Sees w A (vB l)) (a1 : atB l (j : Int) pubW = false) (a2 : atB l (j : Int) sysW = false) :
    Calls Tryd.prog 81 #[.slice A n c, .int .i64 (j : Int), .bool true] w (ExtPost (noX 7) w) := by
  have hj : j ≤ n := by omega
  have hbA := ((Below.refl _ w).alloc (Nat.le_refl _) (.cells #[.string ⟨#[]⟩, .string ⟨#[]⟩] 59)).alloc (by simp) (.cells #[.string ⟨#[]⟩, .string ⟨#[]⟩] 59)
  have R0 := (Two.new w (.string ⟨#[]⟩) (.string ⟨#[]⟩) 59 _ rfl).alloc (.cells #[.string ⟨#[]⟩, .string ⟨#[]⟩] 59)
  have I0 := Two.new (w.alloc (.cells #[.string ⟨#[]⟩, .string ⟨#[]⟩] 59)) (.string ⟨#[]⟩) (.string ⟨#[]⟩) 59 (w.heap.size + 1) (by simp)
  have i0 : (0 : Int) ≤ (j : Int) := by omega
  have i1 : (j : Int) ≤ (n : Int) := by omega
  have KA1 := fun (w' : World) (hb : Below w.heap.size w w') => rat_any l pubW A n c (j : Int) w' hn hnc hm hn9 ⟨by omega, by omega⟩ (by simp [pubW]) (by simp [pubW]) (hs.below hb)
  have KA2 := fun (w' : World) (hb : Below w.heap.size w w') => rat_any l sysW A n c (j : Int) w' hn hnc hm hn9 ⟨by omega, by omega⟩ (by simp [sysW]) (by simp [sysW]) (hs.below hb)
  rw [a1] at KA1
  rw [a2] at KA2
  have KB := fun (w' : World) (hb : Below w.heap.size w w') (i q : Nat) (k : Int) (hk : k = i) (hi : i ≤ n) (hq : blkN l l.length i = q) => (show Calls Tryd.prog 73 #[.slice A n c, .int .i64 k] w' fun e w'' => e = .returned (.int .i64 (q : Int)) ∧ w' = w'' from by
    subst hk; have h := rblanks_any l A n c (i : Int) w' hn hnc (by omega) ⟨by omega, by omega⟩ (hs.below hb); rw [blkV_in (by omega), hq] at h; exact h)
  have KQ := fun (w' : World) (hb : Below w.heap.size w w') (q : Nat) (s : List UInt8) (y e0 : Int) (hi : q ≤ n) (hq : quoT l (q : Int) = (s, y, e0)) => (show Calls Tryd.prog 114 #[.slice A n c, .int .i64 (q : Int)] w' fun e w'' => e = .returned (.tuple #[strV s, .int .i64 y, .int .i64 e0]) ∧ Below w'.heap.size w' w'' from by
    have h := rquoted_any l A n c (q : Int) w' hn hnc hm ⟨by omega, by omega⟩ hn9 (hs.below hb); rw [hq] at h; exact h)
  have KP := fun (w' : World) (hb : Below w.heap.size w w') (q : Nat) (s : List UInt8) (y e0 : Int) (hi : q ≤ n) (hq : pubT l (q : Int) = (s, y, e0)) => (show Calls Tryd.prog 116 #[.slice A n c, .int .i64 (q : Int)] w' fun e w'' => e = .returned (.tuple #[strV s, .int .i64 y, .int .i64 e0]) ∧ Below w'.heap.size w' w'' from by
    have h := rpublic_any l A n c (q : Int) w' hn hnc hm ⟨by omega, by omega⟩ hn9 (hs.below hb); rw [hq] at h; exact h)
  have HP := Lib.hid (show ∀ W', Below w.heap.size w W' → ExtPost (noX 7) w (.returned (.tuple #[.agg #[.string ⟨#[]⟩, .string ⟨#[]⟩], .int .i64 0, .int .i64 7])) W' from fun W' hb => ⟨rfl, hb⟩)
  obtain ⟨W2, hW2⟩ : ∃ W2, (w.alloc (.cells #[.string ⟨#[]⟩, .string ⟨#[]⟩] 59)).alloc (.cells #[.string ⟨#[]⟩, .string ⟨#[]⟩] 59) = W2 := ⟨_, rfl⟩
  rw [hW2] at hbA R0 I0
  have HW2 := Lib.hid hW2
  have hB2 := Lib.hid hbA
  have R2 := Lib.hid R0
  have I2 := Lib.hid I0
  have LA1 := Lib.hid KA1
  have LA2 := Lib.hid KA2
  clear hW2 hs hn hbA R0 I0 KA1 KA2 KB KQ KP a1 a2
  go_enter Tryd.func81, Tryd.ntmps81
  go_wp2_with fail
  rw [HW2.out]
  clear HW2
  refine (LA1.out W2 hB2.out).mono ?_
  rintro e w' ⟨rfl, rfl⟩
  skip
  go_wp2_with fail
  refine (LA2.out W2 hB2.out).mono ?_
  rintro e w' ⟨rfl, rfl⟩
  obtain ⟨r0, r1, q0, q1⟩ := R2.out.at
  obtain ⟨x0, x1, v0, v1⟩ := I2.out.at
  obtain ⟨s0, s1, _, _⟩ := ((R2.out.set0 (.string ⟨#[]⟩)).set1 (.string ⟨#[]⟩)).at
  go_wp2_with fail
  (try simp only [Exit.inBlock, Exit.then])
  refine bodyPost_ret (by simp [results, Tryd.results81, go_sem, s0, s1]; first | rfl | done) rfl (HP.out _ ?_)
  exact (hB2.out.setCell (Nat.le_refl _) _).setCell (Nat.le_refl _) _

set_option maxHeartbeats 8000000 in
theorem rext_sys7 (l : List UInt8) (A : Option Addr) (n c j : Nat) (w : World) (hn : l.length = n) (hnc : n ≤ c) (hm : c ≤ 9223372036854775807) (hn9 : n ≤ 1000000) (hj6 : j ≤ n) (hs : Sees w A (vB l)) (a1 : atB l (j : Int) pubW = false) (a2 : atB l (j : Int) sysW = true) (h6 : j + 6 ≤ n) (hq : blkN l l.length (j + 6) = j + 6) :
    Calls Tryd.prog 81 #[.slice A n c, .int .i64 (j : Int), .bool true] w (ExtPost (noX 7) w) := by
  have hj : j ≤ n := by omega
  have hbA := ((Below.refl _ w).alloc (Nat.le_refl _) (.cells #[.string ⟨#[]⟩, .string ⟨#[]⟩] 59)).alloc (by simp) (.cells #[.string ⟨#[]⟩, .string ⟨#[]⟩] 59)
  have R0 := (Two.new w (.string ⟨#[]⟩) (.string ⟨#[]⟩) 59 _ rfl).alloc (.cells #[.string ⟨#[]⟩, .string ⟨#[]⟩] 59)
  have I0 := Two.new (w.alloc (.cells #[.string ⟨#[]⟩, .string ⟨#[]⟩] 59)) (.string ⟨#[]⟩) (.string ⟨#[]⟩) 59 (w.heap.size + 1) (by simp)
  have i0 : (0 : Int) ≤ (j : Int) := by omega
  have i1 : (j : Int) ≤ (n : Int) := by omega
  have KA1 := fun (w' : World) (hb : Below w.heap.size w w') => rat_any l pubW A n c (j : Int) w' hn hnc hm hn9 ⟨by omega, by omega⟩ (by simp [pubW]) (by simp [pubW]) (hs.below hb)
  have KA2 := fun (w' : World) (hb : Below w.heap.size w w') => rat_any l sysW A n c (j : Int) w' hn hnc hm hn9 ⟨by omega, by omega⟩ (by simp [sysW]) (by simp [sysW]) (hs.below hb)
  rw [a1] at KA1
  rw [a2] at KA2
  have KB := fun (w' : World) (hb : Below w.heap.size w w') (i q : Nat) (k : Int) (hk : k = i) (hi : i ≤ n) (hq : blkN l l.length i = q) => (show Calls Tryd.prog 73 #[.slice A n c, .int .i64 k] w' fun e w'' => e = .returned (.int .i64 (q : Int)) ∧ w' = w'' from by
    subst hk; have h := rblanks_any l A n c (i : Int) w' hn hnc (by omega) ⟨by omega, by omega⟩ (hs.below hb); rw [blkV_in (by omega), hq] at h; exact h)
  have KQ := fun (w' : World) (hb : Below w.heap.size w w') (q : Nat) (s : List UInt8) (y e0 : Int) (hi : q ≤ n) (hq : quoT l (q : Int) = (s, y, e0)) => (show Calls Tryd.prog 114 #[.slice A n c, .int .i64 (q : Int)] w' fun e w'' => e = .returned (.tuple #[strV s, .int .i64 y, .int .i64 e0]) ∧ Below w'.heap.size w' w'' from by
    have h := rquoted_any l A n c (q : Int) w' hn hnc hm ⟨by omega, by omega⟩ hn9 (hs.below hb); rw [hq] at h; exact h)
  have KP := fun (w' : World) (hb : Below w.heap.size w w') (q : Nat) (s : List UInt8) (y e0 : Int) (hi : q ≤ n) (hq : pubT l (q : Int) = (s, y, e0)) => (show Calls Tryd.prog 116 #[.slice A n c, .int .i64 (q : Int)] w' fun e w'' => e = .returned (.tuple #[strV s, .int .i64 y, .int .i64 e0]) ∧ Below w'.heap.size w' w'' from by
    have h := rpublic_any l A n c (q : Int) w' hn hnc hm ⟨by omega, by omega⟩ hn9 (hs.below hb); rw [hq] at h; exact h)
  have HP := Lib.hid (show ∀ W', Below w.heap.size w W' → ExtPost (noX 7) w (.returned (.tuple #[.agg #[.string ⟨#[]⟩, .string ⟨#[]⟩], .int .i64 0, .int .i64 7])) W' from fun W' hb => ⟨rfl, hb⟩)
  obtain ⟨W2, hW2⟩ : ∃ W2, (w.alloc (.cells #[.string ⟨#[]⟩, .string ⟨#[]⟩] 59)).alloc (.cells #[.string ⟨#[]⟩, .string ⟨#[]⟩] 59) = W2 := ⟨_, rfl⟩
  rw [hW2] at hbA R0 I0
  have HW2 := Lib.hid hW2
  have hB2 := Lib.hid hbA
  have R2 := Lib.hid R0
  have I2 := Lib.hid I0
  have LA1 := Lib.hid KA1
  have LA2 := Lib.hid KA2
  have LB := Lib.hid (fun (w' : World) (hb : Below w.heap.size w w') => KB w' hb (j + 6) (j + 6) ((j : Int) + 6) (by omega) h6 hq)
  have tq : (((j + 6 : Nat) : Int) == (j : Int) + 6) = true := by simp
  have tq2 : ((j : Int) + 6 == (j : Int) + 6) = true := by simp
  clear hW2 hs hn hbA R0 I0 KA1 KA2 KB KQ KP a1 a2 hq
  go_enter Tryd.func81, Tryd.ntmps81
  go_wp2_with fail
  rw [HW2.out]
  clear HW2
  refine (LA1.out W2 hB2.out).mono ?_
  rintro e w' ⟨rfl, rfl⟩
  skip
  go_wp2_with fail
  refine (LA2.out W2 hB2.out).mono ?_
  rintro e w' ⟨rfl, rfl⟩
  go_wp2_with fail
  refine (LB.out W2 hB2.out).mono ?_
  rintro e w' ⟨rfl, rfl⟩
  obtain ⟨r0, r1, q0, q1⟩ := R2.out.at
  obtain ⟨x0, x1, v0, v1⟩ := I2.out.at
  obtain ⟨s0, s1, _, _⟩ := ((R2.out.set0 (.string ⟨#[]⟩)).set1 (.string ⟨#[]⟩)).at
  go_wp2_with fail
  (try simp only [Exit.inBlock, Exit.then])
  refine bodyPost_ret (by simp [results, Tryd.results81, go_sem, s0, s1]; first | rfl | done) rfl (HP.out _ ?_)
  exact (hB2.out.setCell (Nat.le_refl _) _).setCell (Nat.le_refl _) _

set_option maxHeartbeats 8000000 in
theorem rext_syse (l : List UInt8) (A : Option Addr) (n c j : Nat) (w : World) (hn : l.length = n) (hnc : n ≤ c) (hm : c ≤ 9223372036854775807) (hn9 : n ≤ 1000000) (hj6 : j ≤ n) (hs : Sees w A (vB l)) (a1 : atB l (j : Int) pubW = false) (a2 : atB l (j : Int) sysW = true) (h6 : j + 6 ≤ n) (q : Nat) (hq : blkN l l.length (j + 6) = q) (hne : q ≠ j + 6) (hqn : q ≤ n) (e0 : Int) (h0 : e0 ≠ 0) (hr : quoT l (q : Int) = noT e0) :
    Calls Tryd.prog 81 #[.slice A n c, .int .i64 (j : Int), .bool true] w (ExtPost (noX e0) w) := by
  have hj : j ≤ n := by omega
  have hbA := ((Below.refl _ w).alloc (Nat.le_refl _) (.cells #[.string ⟨#[]⟩, .string ⟨#[]⟩] 59)).alloc (by simp) (.cells #[.string ⟨#[]⟩, .string ⟨#[]⟩] 59)
  have R0 := (Two.new w (.string ⟨#[]⟩) (.string ⟨#[]⟩) 59 _ rfl).alloc (.cells #[.string ⟨#[]⟩, .string ⟨#[]⟩] 59)
  have I0 := Two.new (w.alloc (.cells #[.string ⟨#[]⟩, .string ⟨#[]⟩] 59)) (.string ⟨#[]⟩) (.string ⟨#[]⟩) 59 (w.heap.size + 1) (by simp)
  have i0 : (0 : Int) ≤ (j : Int) := by omega
  have i1 : (j : Int) ≤ (n : Int) := by omega
  have KA1 := fun (w' : World) (hb : Below w.heap.size w w') => rat_any l pubW A n c (j : Int) w' hn hnc hm hn9 ⟨by omega, by omega⟩ (by simp [pubW]) (by simp [pubW]) (hs.below hb)
  have KA2 := fun (w' : World) (hb : Below w.heap.size w w') => rat_any l sysW A n c (j : Int) w' hn hnc hm hn9 ⟨by omega, by omega⟩ (by simp [sysW]) (by simp [sysW]) (hs.below hb)
  rw [a1] at KA1
  rw [a2] at KA2
  have KB := fun (w' : World) (hb : Below w.heap.size w w') (i q : Nat) (k : Int) (hk : k = i) (hi : i ≤ n) (hq : blkN l l.length i = q) => (show Calls Tryd.prog 73 #[.slice A n c, .int .i64 k] w' fun e w'' => e = .returned (.int .i64 (q : Int)) ∧ w' = w'' from by
    subst hk; have h := rblanks_any l A n c (i : Int) w' hn hnc (by omega) ⟨by omega, by omega⟩ (hs.below hb); rw [blkV_in (by omega), hq] at h; exact h)
  have KQ := fun (w' : World) (hb : Below w.heap.size w w') (q : Nat) (s : List UInt8) (y e0 : Int) (hi : q ≤ n) (hq : quoT l (q : Int) = (s, y, e0)) => (show Calls Tryd.prog 114 #[.slice A n c, .int .i64 (q : Int)] w' fun e w'' => e = .returned (.tuple #[strV s, .int .i64 y, .int .i64 e0]) ∧ Below w'.heap.size w' w'' from by
    have h := rquoted_any l A n c (q : Int) w' hn hnc hm ⟨by omega, by omega⟩ hn9 (hs.below hb); rw [hq] at h; exact h)
  have KP := fun (w' : World) (hb : Below w.heap.size w w') (q : Nat) (s : List UInt8) (y e0 : Int) (hi : q ≤ n) (hq : pubT l (q : Int) = (s, y, e0)) => (show Calls Tryd.prog 116 #[.slice A n c, .int .i64 (q : Int)] w' fun e w'' => e = .returned (.tuple #[strV s, .int .i64 y, .int .i64 e0]) ∧ Below w'.heap.size w' w'' from by
    have h := rpublic_any l A n c (q : Int) w' hn hnc hm ⟨by omega, by omega⟩ hn9 (hs.below hb); rw [hq] at h; exact h)
  have HP := Lib.hid (show ∀ W', Below w.heap.size w W' → ExtPost (noX e0) w (.returned (.tuple #[.agg #[.string ⟨#[]⟩, .string ⟨#[]⟩], .int .i64 0, .int .i64 e0])) W' from fun W' hb => ⟨rfl, hb⟩)
  obtain ⟨W2, hW2⟩ : ∃ W2, (w.alloc (.cells #[.string ⟨#[]⟩, .string ⟨#[]⟩] 59)).alloc (.cells #[.string ⟨#[]⟩, .string ⟨#[]⟩] 59) = W2 := ⟨_, rfl⟩
  rw [hW2] at hbA R0 I0
  have HW2 := Lib.hid hW2
  have hB2 := Lib.hid hbA
  have R2 := Lib.hid R0
  have I2 := Lib.hid I0
  have LA1 := Lib.hid KA1
  have LA2 := Lib.hid KA2
  have LB := Lib.hid (fun (w' : World) (hb : Below w.heap.size w w') => KB w' hb (j + 6) q ((j : Int) + 6) (by omega) h6 hq)
  have tq : ((q : Int) == (j : Int) + 6) = false := by rw [beq_eq_false_iff_ne]; omega
  have LQ := Lib.hid (fun (w' : World) (hb : Below w.heap.size w w') => KQ w' hb q [] 0 e0 hqn hr)
  have t0 : (e0 != 0) = true := by simpa using h0
  clear hW2 hs hn hbA R0 I0 KA1 KA2 KB KQ KP a1 a2 hq hr hne h0
  go_enter Tryd.func81, Tryd.ntmps81
  go_wp2_with fail
  rw [HW2.out]
  clear HW2
  refine (LA1.out W2 hB2.out).mono ?_
  rintro e w' ⟨rfl, rfl⟩
  skip
  go_wp2_with fail
  refine (LA2.out W2 hB2.out).mono ?_
  rintro e w' ⟨rfl, rfl⟩
  go_wp2_with fail
  refine (LB.out W2 hB2.out).mono ?_
  rintro e w' ⟨rfl, rfl⟩
  go_wp2_with fail
  refine (LQ.out W2 hB2.out).mono ?_
  rintro e w8 ⟨rfl, hb8⟩
  have hB8 := Lib.hid (hB2.out.trans (hb8.mono hB2.out.size))
  have R8 := Lib.hid (R2.out.below hb8)
  have I8 := Lib.hid (I2.out.below hb8)
  clear hb8
  obtain ⟨r0, r1, q0, q1⟩ := R8.out.at
  obtain ⟨x0, x1, v0, v1⟩ := I8.out.at
  obtain ⟨s0, s1, _, _⟩ := ((R8.out.set0 (.string ⟨#[]⟩)).set1 (.string ⟨#[]⟩)).at
  go_wp2_with fail
  (try simp only [Exit.inBlock, Exit.then])
  refine bodyPost_ret (by simp [results, Tryd.results81, go_sem, s0, s1]; first | rfl | done) rfl (HP.out _ ?_)
  exact (hB8.out.setCell (Nat.le_refl _) _).setCell (Nat.le_refl _) _

set_option maxHeartbeats 8000000 in
theorem rext_sysok (l : List UInt8) (A : Option Addr) (n c j : Nat) (w : World) (hn : l.length = n) (hnc : n ≤ c) (hm : c ≤ 9223372036854775807) (hn9 : n ≤ 1000000) (hj6 : j ≤ n) (hs : Sees w A (vB l)) (a1 : atB l (j : Int) pubW = false) (a2 : atB l (j : Int) sysW = true) (h6 : j + 6 ≤ n) (q : Nat) (hq : blkN l l.length (j + 6) = q) (hne : q ≠ j + 6) (hqn : q ≤ n) (s : List UInt8) (y : Int) (hr : quoT l (q : Int) = (s, y, 0)) :
    Calls Tryd.prog 81 #[.slice A n c, .int .i64 (j : Int), .bool true] w (ExtPost (([], s, y, 0)) w) := by
  have hj : j ≤ n := by omega
  have hbA := ((Below.refl _ w).alloc (Nat.le_refl _) (.cells #[.string ⟨#[]⟩, .string ⟨#[]⟩] 59)).alloc (by simp) (.cells #[.string ⟨#[]⟩, .string ⟨#[]⟩] 59)
  have R0 := (Two.new w (.string ⟨#[]⟩) (.string ⟨#[]⟩) 59 _ rfl).alloc (.cells #[.string ⟨#[]⟩, .string ⟨#[]⟩] 59)
  have I0 := Two.new (w.alloc (.cells #[.string ⟨#[]⟩, .string ⟨#[]⟩] 59)) (.string ⟨#[]⟩) (.string ⟨#[]⟩) 59 (w.heap.size + 1) (by simp)
  have i0 : (0 : Int) ≤ (j : Int) := by omega
  have i1 : (j : Int) ≤ (n : Int) := by omega
  have KA1 := fun (w' : World) (hb : Below w.heap.size w w') => rat_any l pubW A n c (j : Int) w' hn hnc hm hn9 ⟨by omega, by omega⟩ (by simp [pubW]) (by simp [pubW]) (hs.below hb)
  have KA2 := fun (w' : World) (hb : Below w.heap.size w w') => rat_any l sysW A n c (j : Int) w' hn hnc hm hn9 ⟨by omega, by omega⟩ (by simp [sysW]) (by simp [sysW]) (hs.below hb)
  rw [a1] at KA1
  rw [a2] at KA2
  have KB := fun (w' : World) (hb : Below w.heap.size w w') (i q : Nat) (k : Int) (hk : k = i) (hi : i ≤ n) (hq : blkN l l.length i = q) => (show Calls Tryd.prog 73 #[.slice A n c, .int .i64 k] w' fun e w'' => e = .returned (.int .i64 (q : Int)) ∧ w' = w'' from by
    subst hk; have h := rblanks_any l A n c (i : Int) w' hn hnc (by omega) ⟨by omega, by omega⟩ (hs.below hb); rw [blkV_in (by omega), hq] at h; exact h)
  have KQ := fun (w' : World) (hb : Below w.heap.size w w') (q : Nat) (s : List UInt8) (y e0 : Int) (hi : q ≤ n) (hq : quoT l (q : Int) = (s, y, e0)) => (show Calls Tryd.prog 114 #[.slice A n c, .int .i64 (q : Int)] w' fun e w'' => e = .returned (.tuple #[strV s, .int .i64 y, .int .i64 e0]) ∧ Below w'.heap.size w' w'' from by
    have h := rquoted_any l A n c (q : Int) w' hn hnc hm ⟨by omega, by omega⟩ hn9 (hs.below hb); rw [hq] at h; exact h)
  have KP := fun (w' : World) (hb : Below w.heap.size w w') (q : Nat) (s : List UInt8) (y e0 : Int) (hi : q ≤ n) (hq : pubT l (q : Int) = (s, y, e0)) => (show Calls Tryd.prog 116 #[.slice A n c, .int .i64 (q : Int)] w' fun e w'' => e = .returned (.tuple #[strV s, .int .i64 y, .int .i64 e0]) ∧ Below w'.heap.size w' w'' from by
    have h := rpublic_any l A n c (q : Int) w' hn hnc hm ⟨by omega, by omega⟩ hn9 (hs.below hb); rw [hq] at h; exact h)
  have HP := Lib.hid (show ∀ W', Below w.heap.size w W' → ExtPost (([], s, y, 0)) w (.returned (.tuple #[.agg #[.string ⟨#[]⟩, strV s], .int .i64 y, .int .i64 0])) W' from fun W' hb => ⟨rfl, hb⟩)
  obtain ⟨W2, hW2⟩ : ∃ W2, (w.alloc (.cells #[.string ⟨#[]⟩, .string ⟨#[]⟩] 59)).alloc (.cells #[.string ⟨#[]⟩, .string ⟨#[]⟩] 59) = W2 := ⟨_, rfl⟩
  rw [hW2] at hbA R0 I0
  have HW2 := Lib.hid hW2
  have hB2 := Lib.hid hbA
  have R2 := Lib.hid R0
  have I2 := Lib.hid I0
  have LA1 := Lib.hid KA1
  have LA2 := Lib.hid KA2
  have LB := Lib.hid (fun (w' : World) (hb : Below w.heap.size w w') => KB w' hb (j + 6) q ((j : Int) + 6) (by omega) h6 hq)
  have tq : ((q : Int) == (j : Int) + 6) = false := by rw [beq_eq_false_iff_ne]; omega
  have LQ := Lib.hid (fun (w' : World) (hb : Below w.heap.size w w') => KQ w' hb q s y 0 hqn hr)
  clear hW2 hs hn hbA R0 I0 KA1 KA2 KB KQ KP a1 a2 hq hr hne
  go_enter Tryd.func81, Tryd.ntmps81
  go_wp2_with fail
  rw [HW2.out]
  clear HW2
  refine (LA1.out W2 hB2.out).mono ?_
  rintro e w' ⟨rfl, rfl⟩
  skip
  go_wp2_with fail
  refine (LA2.out W2 hB2.out).mono ?_
  rintro e w' ⟨rfl, rfl⟩
  go_wp2_with fail
  refine (LB.out W2 hB2.out).mono ?_
  rintro e w' ⟨rfl, rfl⟩
  go_wp2_with fail
  refine (LQ.out W2 hB2.out).mono ?_
  rintro e w8 ⟨rfl, hb8⟩
  have hB8 := Lib.hid (hB2.out.trans (hb8.mono hB2.out.size))
  have R8 := Lib.hid (R2.out.below hb8)
  have I8 := Lib.hid (I2.out.below hb8)
  clear hb8
  obtain ⟨r0, r1, q0, q1⟩ := R8.out.at
  obtain ⟨x0, x1, v0, v1⟩ := I8.out.at
  obtain ⟨s0, s1, _, _⟩ := (((R8.out.far (b' := w.heap.size + 1) (o := 1) (by omega) (strV s)).set0 (.string ⟨#[]⟩)).set1 (strV s)).at
  go_wp2_with fail
  (try simp only [Exit.inBlock, Exit.then])
  refine bodyPost_ret (by simp [results, Tryd.results81, go_sem, s0, s1]; first | rfl | done) rfl (HP.out _ ?_)
  exact ((hB8.out.setCell (by simp) _).setCell (Nat.le_refl _) _).setCell (Nat.le_refl _) _
end Go.Proofs.YtdmfladcldkmeaaDoor
namespace Go.Proofs.YtdmfladcldkmeaaDoor
open Go.ChangeShapes Go.WideShapes Go.ChangeAt Go.RowKit
set_option linter.unusedVariables false
set_option maxRecDepth 100000

set_option maxHeartbeats 8000000 in
theorem rext_pub7 (l : List UInt8) (A : Option Addr) (n c j : Nat) (w : World) (hn : l.length = n) (hnc : n ≤ c) (hm : c ≤ 9223372036854775807) (hn9 : n ≤ 1000000) (hj6 : j ≤ n) (hs : Sees w A (vB l)) (a1 : atB l (j : Int) pubW = true) (h6 : j + 6 ≤ n) (hq : blkN l l.length (j + 6) = j + 6) :
    Calls Tryd.prog 81 #[.slice A n c, .int .i64 (j : Int), .bool true] w (ExtPost (noX 7) w) := by
  have hj : j ≤ n := by omega
  have hbA := ((Below.refl _ w).alloc (Nat.le_refl _) (.cells #[.string ⟨#[]⟩, .string ⟨#[]⟩] 59)).alloc (by simp) (.cells #[.string ⟨#[]⟩, .string ⟨#[]⟩] 59)
  have R0 := (Two.new w (.string ⟨#[]⟩) (.string ⟨#[]⟩) 59 _ rfl).alloc (.cells #[.string ⟨#[]⟩, .string ⟨#[]⟩] 59)
  have I0 := Two.new (w.alloc (.cells #[.string ⟨#[]⟩, .string ⟨#[]⟩] 59)) (.string ⟨#[]⟩) (.string ⟨#[]⟩) 59 (w.heap.size + 1) (by simp)
  have i0 : (0 : Int) ≤ (j : Int) := by omega
  have i1 : (j : Int) ≤ (n : Int) := by omega
  have KA1 := fun (w' : World) (hb : Below w.heap.size w w') => rat_any l pubW A n c (j : Int) w' hn hnc hm hn9 ⟨by omega, by omega⟩ (by simp [pubW]) (by simp [pubW]) (hs.below hb)
  have KA2 := fun (w' : World) (hb : Below w.heap.size w w') => rat_any l sysW A n c (j : Int) w' hn hnc hm hn9 ⟨by omega, by omega⟩ (by simp [sysW]) (by simp [sysW]) (hs.below hb)
  rw [a1] at KA1
  skip
  have KB := fun (w' : World) (hb : Below w.heap.size w w') (i q : Nat) (k : Int) (hk : k = i) (hi : i ≤ n) (hq : blkN l l.length i = q) => (show Calls Tryd.prog 73 #[.slice A n c, .int .i64 k] w' fun e w'' => e = .returned (.int .i64 (q : Int)) ∧ w' = w'' from by
    subst hk; have h := rblanks_any l A n c (i : Int) w' hn hnc (by omega) ⟨by omega, by omega⟩ (hs.below hb); rw [blkV_in (by omega), hq] at h; exact h)
  have KQ := fun (w' : World) (hb : Below w.heap.size w w') (q : Nat) (s : List UInt8) (y e0 : Int) (hi : q ≤ n) (hq : quoT l (q : Int) = (s, y, e0)) => (show Calls Tryd.prog 114 #[.slice A n c, .int .i64 (q : Int)] w' fun e w'' => e = .returned (.tuple #[strV s, .int .i64 y, .int .i64 e0]) ∧ Below w'.heap.size w' w'' from by
    have h := rquoted_any l A n c (q : Int) w' hn hnc hm ⟨by omega, by omega⟩ hn9 (hs.below hb); rw [hq] at h; exact h)
  have KP := fun (w' : World) (hb : Below w.heap.size w w') (q : Nat) (s : List UInt8) (y e0 : Int) (hi : q ≤ n) (hq : pubT l (q : Int) = (s, y, e0)) => (show Calls Tryd.prog 116 #[.slice A n c, .int .i64 (q : Int)] w' fun e w'' => e = .returned (.tuple #[strV s, .int .i64 y, .int .i64 e0]) ∧ Below w'.heap.size w' w'' from by
    have h := rpublic_any l A n c (q : Int) w' hn hnc hm ⟨by omega, by omega⟩ hn9 (hs.below hb); rw [hq] at h; exact h)
  have HP := Lib.hid (show ∀ W', Below w.heap.size w W' → ExtPost (noX 7) w (.returned (.tuple #[.agg #[.string ⟨#[]⟩, .string ⟨#[]⟩], .int .i64 0, .int .i64 7])) W' from fun W' hb => ⟨rfl, hb⟩)
  obtain ⟨W2, hW2⟩ : ∃ W2, (w.alloc (.cells #[.string ⟨#[]⟩, .string ⟨#[]⟩] 59)).alloc (.cells #[.string ⟨#[]⟩, .string ⟨#[]⟩] 59) = W2 := ⟨_, rfl⟩
  rw [hW2] at hbA R0 I0
  have HW2 := Lib.hid hW2
  have hB2 := Lib.hid hbA
  have R2 := Lib.hid R0
  have I2 := Lib.hid I0
  have LA1 := Lib.hid KA1
  have LB1 := Lib.hid (fun (w' : World) (hb : Below w.heap.size w w') => KB w' hb (j + 6) (j + 6) ((j : Int) + 6) (by omega) h6 hq)
  have tq : (((j + 6 : Nat) : Int) == (j : Int) + 6) = true := by simp
  clear hW2 hs hn hbA R0 I0 KA1 KA2 KB KQ KP a1 hq
  go_enter Tryd.func81, Tryd.ntmps81
  go_wp2_with fail
  rw [HW2.out]
  clear HW2
  refine (LA1.out W2 hB2.out).mono ?_
  rintro e w' ⟨rfl, rfl⟩
  skip
  go_wp2_with fail
  refine (LB1.out W2 hB2.out).mono ?_
  rintro e w' ⟨rfl, rfl⟩
  obtain ⟨r0, r1, q0, q1⟩ := R2.out.at
  obtain ⟨x0, x1, v0, v1⟩ := I2.out.at
  obtain ⟨s0, s1, _, _⟩ := ((R2.out.set0 (.string ⟨#[]⟩)).set1 (.string ⟨#[]⟩)).at
  go_wp2_with fail
  (try simp only [Exit.inBlock, Exit.then])
  refine bodyPost_ret (by simp [results, Tryd.results81, go_sem, s0, s1]; first | rfl | done) rfl (HP.out _ ?_)
  exact (hB2.out.setCell (Nat.le_refl _) _).setCell (Nat.le_refl _) _

set_option maxHeartbeats 8000000 in
theorem rext_pube (l : List UInt8) (A : Option Addr) (n c j : Nat) (w : World) (hn : l.length = n) (hnc : n ≤ c) (hm : c ≤ 9223372036854775807) (hn9 : n ≤ 1000000) (hj6 : j ≤ n) (hs : Sees w A (vB l)) (a1 : atB l (j : Int) pubW = true) (h6 : j + 6 ≤ n) (k : Nat) (hk : blkN l l.length (j + 6) = k) (hkne : k ≠ j + 6) (hkn : k ≤ n) (e0 : Int) (h0 : e0 ≠ 0) (hr : pubT l (k : Int) = noT e0) :
    Calls Tryd.prog 81 #[.slice A n c, .int .i64 (j : Int), .bool true] w (ExtPost (noX e0) w) := by
  have hj : j ≤ n := by omega
  have hbA := ((Below.refl _ w).alloc (Nat.le_refl _) (.cells #[.string ⟨#[]⟩, .string ⟨#[]⟩] 59)).alloc (by simp) (.cells #[.string ⟨#[]⟩, .string ⟨#[]⟩] 59)
  have R0 := (Two.new w (.string ⟨#[]⟩) (.string ⟨#[]⟩) 59 _ rfl).alloc (.cells #[.string ⟨#[]⟩, .string ⟨#[]⟩] 59)
  have I0 := Two.new (w.alloc (.cells #[.string ⟨#[]⟩, .string ⟨#[]⟩] 59)) (.string ⟨#[]⟩) (.string ⟨#[]⟩) 59 (w.heap.size + 1) (by simp)
  have i0 : (0 : Int) ≤ (j : Int) := by omega
  have i1 : (j : Int) ≤ (n : Int) := by omega
  have KA1 := fun (w' : World) (hb : Below w.heap.size w w') => rat_any l pubW A n c (j : Int) w' hn hnc hm hn9 ⟨by omega, by omega⟩ (by simp [pubW]) (by simp [pubW]) (hs.below hb)
  have KA2 := fun (w' : World) (hb : Below w.heap.size w w') => rat_any l sysW A n c (j : Int) w' hn hnc hm hn9 ⟨by omega, by omega⟩ (by simp [sysW]) (by simp [sysW]) (hs.below hb)
  rw [a1] at KA1
  skip
  have KB := fun (w' : World) (hb : Below w.heap.size w w') (i q : Nat) (k : Int) (hk : k = i) (hi : i ≤ n) (hq : blkN l l.length i = q) => (show Calls Tryd.prog 73 #[.slice A n c, .int .i64 k] w' fun e w'' => e = .returned (.int .i64 (q : Int)) ∧ w' = w'' from by
    subst hk; have h := rblanks_any l A n c (i : Int) w' hn hnc (by omega) ⟨by omega, by omega⟩ (hs.below hb); rw [blkV_in (by omega), hq] at h; exact h)
  have KQ := fun (w' : World) (hb : Below w.heap.size w w') (q : Nat) (s : List UInt8) (y e0 : Int) (hi : q ≤ n) (hq : quoT l (q : Int) = (s, y, e0)) => (show Calls Tryd.prog 114 #[.slice A n c, .int .i64 (q : Int)] w' fun e w'' => e = .returned (.tuple #[strV s, .int .i64 y, .int .i64 e0]) ∧ Below w'.heap.size w' w'' from by
    have h := rquoted_any l A n c (q : Int) w' hn hnc hm ⟨by omega, by omega⟩ hn9 (hs.below hb); rw [hq] at h; exact h)
  have KP := fun (w' : World) (hb : Below w.heap.size w w') (q : Nat) (s : List UInt8) (y e0 : Int) (hi : q ≤ n) (hq : pubT l (q : Int) = (s, y, e0)) => (show Calls Tryd.prog 116 #[.slice A n c, .int .i64 (q : Int)] w' fun e w'' => e = .returned (.tuple #[strV s, .int .i64 y, .int .i64 e0]) ∧ Below w'.heap.size w' w'' from by
    have h := rpublic_any l A n c (q : Int) w' hn hnc hm ⟨by omega, by omega⟩ hn9 (hs.below hb); rw [hq] at h; exact h)
  have HP := Lib.hid (show ∀ W', Below w.heap.size w W' → ExtPost (noX e0) w (.returned (.tuple #[.agg #[.string ⟨#[]⟩, .string ⟨#[]⟩], .int .i64 0, .int .i64 e0])) W' from fun W' hb => ⟨rfl, hb⟩)
  obtain ⟨W2, hW2⟩ : ∃ W2, (w.alloc (.cells #[.string ⟨#[]⟩, .string ⟨#[]⟩] 59)).alloc (.cells #[.string ⟨#[]⟩, .string ⟨#[]⟩] 59) = W2 := ⟨_, rfl⟩
  rw [hW2] at hbA R0 I0
  have HW2 := Lib.hid hW2
  have hB2 := Lib.hid hbA
  have R2 := Lib.hid R0
  have I2 := Lib.hid I0
  have LA1 := Lib.hid KA1
  have LB1 := Lib.hid (fun (w' : World) (hb : Below w.heap.size w w') => KB w' hb (j + 6) k ((j : Int) + 6) (by omega) h6 hk)
  have tk : ((k : Int) == (j : Int) + 6) = false := by rw [beq_eq_false_iff_ne]; omega
  have LP := Lib.hid (fun (w' : World) (hb : Below w.heap.size w w') => KP w' hb k [] 0 e0 hkn hr)
  have t0 : (e0 != 0) = true := by simpa using h0
  clear hW2 hs hn hbA R0 I0 KA1 KA2 KB KQ KP a1 hk hkne hr h0
  go_enter Tryd.func81, Tryd.ntmps81
  go_wp2_with fail
  rw [HW2.out]
  clear HW2
  refine (LA1.out W2 hB2.out).mono ?_
  rintro e w' ⟨rfl, rfl⟩
  skip
  go_wp2_with fail
  refine (LB1.out W2 hB2.out).mono ?_
  rintro e w' ⟨rfl, rfl⟩
  go_wp2_with fail
  refine (LP.out W2 hB2.out).mono ?_
  rintro e w3 ⟨rfl, hb3⟩
  have hB3 := Lib.hid (hB2.out.trans (hb3.mono hB2.out.size))
  have R3 := Lib.hid (R2.out.below hb3)
  have I3 := Lib.hid (I2.out.below hb3)
  clear hb3
  obtain ⟨r0, r1, q0, q1⟩ := R3.out.at
  obtain ⟨x0, x1, v0, v1⟩ := I3.out.at
  obtain ⟨s0, s1, _, _⟩ := ((R3.out.set0 (.string ⟨#[]⟩)).set1 (.string ⟨#[]⟩)).at
  go_wp2_with fail
  (try simp only [Exit.inBlock, Exit.then])
  refine bodyPost_ret (by simp [results, Tryd.results81, go_sem, s0, s1]; first | rfl | done) rfl (HP.out _ ?_)
  exact (hB3.out.setCell (Nat.le_refl _) _).setCell (Nat.le_refl _) _

set_option maxHeartbeats 8000000 in
theorem rext_pubq7 (l : List UInt8) (A : Option Addr) (n c j : Nat) (w : World) (hn : l.length = n) (hnc : n ≤ c) (hm : c ≤ 9223372036854775807) (hn9 : n ≤ 1000000) (hj6 : j ≤ n) (hs : Sees w A (vB l)) (a1 : atB l (j : Int) pubW = true) (h6 : j + 6 ≤ n) (k : Nat) (hk : blkN l l.length (j + 6) = k) (hkne : k ≠ j + 6) (hkn : k ≤ n) (p : List UInt8) (z : Nat) (hzn : z ≤ n) (hr : pubT l (k : Int) = (p, (z : Int), 0)) (hq : blkN l l.length z = z) :
    Calls Tryd.prog 81 #[.slice A n c, .int .i64 (j : Int), .bool true] w (ExtPost (noX 7) w) := by
  have hj : j ≤ n := by omega
  have hbA := ((Below.refl _ w).alloc (Nat.le_refl _) (.cells #[.string ⟨#[]⟩, .string ⟨#[]⟩] 59)).alloc (by simp) (.cells #[.string ⟨#[]⟩, .string ⟨#[]⟩] 59)
  have R0 := (Two.new w (.string ⟨#[]⟩) (.string ⟨#[]⟩) 59 _ rfl).alloc (.cells #[.string ⟨#[]⟩, .string ⟨#[]⟩] 59)
  have I0 := Two.new (w.alloc (.cells #[.string ⟨#[]⟩, .string ⟨#[]⟩] 59)) (.string ⟨#[]⟩) (.string ⟨#[]⟩) 59 (w.heap.size + 1) (by simp)
  have i0 : (0 : Int) ≤ (j : Int) := by omega
  have i1 : (j : Int) ≤ (n : Int) := by omega
  have KA1 := fun (w' : World) (hb : Below w.heap.size w w') => rat_any l pubW A n c (j : Int) w' hn hnc hm hn9 ⟨by omega, by omega⟩ (by simp [pubW]) (by simp [pubW]) (hs.below hb)
  have KA2 := fun (w' : World) (hb : Below w.heap.size w w') => rat_any l sysW A n c (j : Int) w' hn hnc hm hn9 ⟨by omega, by omega⟩ (by simp [sysW]) (by simp [sysW]) (hs.below hb)
  rw [a1] at KA1
  skip
  have KB := fun (w' : World) (hb : Below w.heap.size w w') (i q : Nat) (k : Int) (hk : k = i) (hi : i ≤ n) (hq : blkN l l.length i = q) => (show Calls Tryd.prog 73 #[.slice A n c, .int .i64 k] w' fun e w'' => e = .returned (.int .i64 (q : Int)) ∧ w' = w'' from by
    subst hk; have h := rblanks_any l A n c (i : Int) w' hn hnc (by omega) ⟨by omega, by omega⟩ (hs.below hb); rw [blkV_in (by omega), hq] at h; exact h)
  have KQ := fun (w' : World) (hb : Below w.heap.size w w') (q : Nat) (s : List UInt8) (y e0 : Int) (hi : q ≤ n) (hq : quoT l (q : Int) = (s, y, e0)) => (show Calls Tryd.prog 114 #[.slice A n c, .int .i64 (q : Int)] w' fun e w'' => e = .returned (.tuple #[strV s, .int .i64 y, .int .i64 e0]) ∧ Below w'.heap.size w' w'' from by
    have h := rquoted_any l A n c (q : Int) w' hn hnc hm ⟨by omega, by omega⟩ hn9 (hs.below hb); rw [hq] at h; exact h)
  have KP := fun (w' : World) (hb : Below w.heap.size w w') (q : Nat) (s : List UInt8) (y e0 : Int) (hi : q ≤ n) (hq : pubT l (q : Int) = (s, y, e0)) => (show Calls Tryd.prog 116 #[.slice A n c, .int .i64 (q : Int)] w' fun e w'' => e = .returned (.tuple #[strV s, .int .i64 y, .int .i64 e0]) ∧ Below w'.heap.size w' w'' from by
    have h := rpublic_any l A n c (q : Int) w' hn hnc hm ⟨by omega, by omega⟩ hn9 (hs.below hb); rw [hq] at h; exact h)
  have HP := Lib.hid (show ∀ W', Below w.heap.size w W' → ExtPost (noX 7) w (.returned (.tuple #[.agg #[.string ⟨#[]⟩, .string ⟨#[]⟩], .int .i64 0, .int .i64 7])) W' from fun W' hb => ⟨rfl, hb⟩)
  obtain ⟨W2, hW2⟩ : ∃ W2, (w.alloc (.cells #[.string ⟨#[]⟩, .string ⟨#[]⟩] 59)).alloc (.cells #[.string ⟨#[]⟩, .string ⟨#[]⟩] 59) = W2 := ⟨_, rfl⟩
  rw [hW2] at hbA R0 I0
  have HW2 := Lib.hid hW2
  have hB2 := Lib.hid hbA
  have R2 := Lib.hid R0
  have I2 := Lib.hid I0
  have LA1 := Lib.hid KA1
  have LB1 := Lib.hid (fun (w' : World) (hb : Below w.heap.size w w') => KB w' hb (j + 6) k ((j : Int) + 6) (by omega) h6 hk)
  have tk : ((k : Int) == (j : Int) + 6) = false := by rw [beq_eq_false_iff_ne]; omega
  have LP := Lib.hid (fun (w' : World) (hb : Below w.heap.size w w') => KP w' hb k p (z : Int) 0 hkn hr)
  have LB := Lib.hid (fun (w' : World) (hb : Below w.heap.size w w') => KB w' hb z z (z : Int) rfl hzn hq)
  have tq : ((z : Int) == (z : Int)) = true := by simp
  clear hW2 hs hn hbA R0 I0 KA1 KA2 KB KQ KP a1 hk hkne hr hq
  go_enter Tryd.func81, Tryd.ntmps81
  go_wp2_with fail
  rw [HW2.out]
  clear HW2
  refine (LA1.out W2 hB2.out).mono ?_
  rintro e w' ⟨rfl, rfl⟩
  skip
  go_wp2_with fail
  refine (LB1.out W2 hB2.out).mono ?_
  rintro e w' ⟨rfl, rfl⟩
  go_wp2_with fail
  refine (LP.out W2 hB2.out).mono ?_
  rintro e w3 ⟨rfl, hb3⟩
  have hB3 := Lib.hid (hB2.out.trans (hb3.mono hB2.out.size))
  have R3 := Lib.hid (R2.out.below hb3)
  have I3 := Lib.hid (I2.out.below hb3)
  clear hb3
  obtain ⟨r0, r1, q0, q1⟩ := R3.out.at
  obtain ⟨x0, x1, v0, v1⟩ := I3.out.at
  obtain ⟨W3, hW3⟩ : ∃ W3, w3.setCell ⟨w.heap.size + 1, 0, none⟩ (strV p) = W3 := ⟨_, rfl⟩
  have hB4 := Lib.hid (show Below w.heap.size w W3 from hW3 ▸ hB3.out.setCell (by simp) _)
  have R4 := Lib.hid (show Two W3 _ _ _ _ from hW3 ▸ R3.out.far (b' := w.heap.size + 1) (o := 0) (by omega) (strV p))
  have I4 := Lib.hid (show Two W3 _ _ _ _ from hW3 ▸ I3.out.set0 (strV p))
  go_wp2_with fail
  (try rw [hW3])
  clear hW3 r0 r1 q0 q1 x0 x1 v0 v1
  refine (LB.out W3 hB4.out).mono ?_
  rintro e w' ⟨rfl, rfl⟩
  go_wp2_with fail
  refine (LB.out W3 hB4.out).mono ?_
  rintro e w' ⟨rfl, rfl⟩
  obtain ⟨r0, r1, q0, q1⟩ := R4.out.at
  obtain ⟨x0, x1, v0, v1⟩ := I4.out.at
  obtain ⟨s0, s1, _, _⟩ := ((R4.out.set0 (.string ⟨#[]⟩)).set1 (.string ⟨#[]⟩)).at
  go_wp2_with fail
  (try simp only [Exit.inBlock, Exit.then])
  refine bodyPost_ret (by simp [results, Tryd.results81, go_sem, s0, s1]; first | rfl | done) rfl (HP.out _ ?_)
  exact (hB4.out.setCell (Nat.le_refl _) _).setCell (Nat.le_refl _) _

set_option maxHeartbeats 8000000 in
theorem rext_pubqe (l : List UInt8) (A : Option Addr) (n c j : Nat) (w : World) (hn : l.length = n) (hnc : n ≤ c) (hm : c ≤ 9223372036854775807) (hn9 : n ≤ 1000000) (hj6 : j ≤ n) (hs : Sees w A (vB l)) (a1 : atB l (j : Int) pubW = true) (h6 : j + 6 ≤ n) (k : Nat) (hk : blkN l l.length (j + 6) = k) (hkne : k ≠ j + 6) (hkn : k ≤ n) (p : List UInt8) (z : Nat) (hzn : z ≤ n) (hr : pubT l (k : Int) = (p, (z : Int), 0)) (q : Nat) (hq : blkN l l.length z = q) (hne : q ≠ z) (hqn : q ≤ n) (e0 : Int) (h0 : e0 ≠ 0) (hu : quoT l (q : Int) = noT e0) :
    Calls Tryd.prog 81 #[.slice A n c, .int .i64 (j : Int), .bool true] w (ExtPost (noX e0) w) := by
  have hj : j ≤ n := by omega
  have hbA := ((Below.refl _ w).alloc (Nat.le_refl _) (.cells #[.string ⟨#[]⟩, .string ⟨#[]⟩] 59)).alloc (by simp) (.cells #[.string ⟨#[]⟩, .string ⟨#[]⟩] 59)
  have R0 := (Two.new w (.string ⟨#[]⟩) (.string ⟨#[]⟩) 59 _ rfl).alloc (.cells #[.string ⟨#[]⟩, .string ⟨#[]⟩] 59)
  have I0 := Two.new (w.alloc (.cells #[.string ⟨#[]⟩, .string ⟨#[]⟩] 59)) (.string ⟨#[]⟩) (.string ⟨#[]⟩) 59 (w.heap.size + 1) (by simp)
  have i0 : (0 : Int) ≤ (j : Int) := by omega
  have i1 : (j : Int) ≤ (n : Int) := by omega
  have KA1 := fun (w' : World) (hb : Below w.heap.size w w') => rat_any l pubW A n c (j : Int) w' hn hnc hm hn9 ⟨by omega, by omega⟩ (by simp [pubW]) (by simp [pubW]) (hs.below hb)
  have KA2 := fun (w' : World) (hb : Below w.heap.size w w') => rat_any l sysW A n c (j : Int) w' hn hnc hm hn9 ⟨by omega, by omega⟩ (by simp [sysW]) (by simp [sysW]) (hs.below hb)
  rw [a1] at KA1
  skip
  have KB := fun (w' : World) (hb : Below w.heap.size w w') (i q : Nat) (k : Int) (hk : k = i) (hi : i ≤ n) (hq : blkN l l.length i = q) => (show Calls Tryd.prog 73 #[.slice A n c, .int .i64 k] w' fun e w'' => e = .returned (.int .i64 (q : Int)) ∧ w' = w'' from by
    subst hk; have h := rblanks_any l A n c (i : Int) w' hn hnc (by omega) ⟨by omega, by omega⟩ (hs.below hb); rw [blkV_in (by omega), hq] at h; exact h)
  have KQ := fun (w' : World) (hb : Below w.heap.size w w') (q : Nat) (s : List UInt8) (y e0 : Int) (hi : q ≤ n) (hq : quoT l (q : Int) = (s, y, e0)) => (show Calls Tryd.prog 114 #[.slice A n c, .int .i64 (q : Int)] w' fun e w'' => e = .returned (.tuple #[strV s, .int .i64 y, .int .i64 e0]) ∧ Below w'.heap.size w' w'' from by
    have h := rquoted_any l A n c (q : Int) w' hn hnc hm ⟨by omega, by omega⟩ hn9 (hs.below hb); rw [hq] at h; exact h)
  have KP := fun (w' : World) (hb : Below w.heap.size w w') (q : Nat) (s : List UInt8) (y e0 : Int) (hi : q ≤ n) (hq : pubT l (q : Int) = (s, y, e0)) => (show Calls Tryd.prog 116 #[.slice A n c, .int .i64 (q : Int)] w' fun e w'' => e = .returned (.tuple #[strV s, .int .i64 y, .int .i64 e0]) ∧ Below w'.heap.size w' w'' from by
    have h := rpublic_any l A n c (q : Int) w' hn hnc hm ⟨by omega, by omega⟩ hn9 (hs.below hb); rw [hq] at h; exact h)
  have HP := Lib.hid (show ∀ W', Below w.heap.size w W' → ExtPost (noX e0) w (.returned (.tuple #[.agg #[.string ⟨#[]⟩, .string ⟨#[]⟩], .int .i64 0, .int .i64 e0])) W' from fun W' hb => ⟨rfl, hb⟩)
  obtain ⟨W2, hW2⟩ : ∃ W2, (w.alloc (.cells #[.string ⟨#[]⟩, .string ⟨#[]⟩] 59)).alloc (.cells #[.string ⟨#[]⟩, .string ⟨#[]⟩] 59) = W2 := ⟨_, rfl⟩
  rw [hW2] at hbA R0 I0
  have HW2 := Lib.hid hW2
  have hB2 := Lib.hid hbA
  have R2 := Lib.hid R0
  have I2 := Lib.hid I0
  have LA1 := Lib.hid KA1
  have LB1 := Lib.hid (fun (w' : World) (hb : Below w.heap.size w w') => KB w' hb (j + 6) k ((j : Int) + 6) (by omega) h6 hk)
  have tk : ((k : Int) == (j : Int) + 6) = false := by rw [beq_eq_false_iff_ne]; omega
  have LP := Lib.hid (fun (w' : World) (hb : Below w.heap.size w w') => KP w' hb k p (z : Int) 0 hkn hr)
  have LB := Lib.hid (fun (w' : World) (hb : Below w.heap.size w w') => KB w' hb z q (z : Int) rfl hzn hq)
  have tq : ((q : Int) == (z : Int)) = false := by rw [beq_eq_false_iff_ne]; omega
  have LQ := Lib.hid (fun (w' : World) (hb : Below w.heap.size w w') => KQ w' hb q [] 0 e0 hqn hu)
  have t0 : (e0 != 0) = true := by simpa using h0
  clear hW2 hs hn hbA R0 I0 KA1 KA2 KB KQ KP a1 hk hkne hr hq hne hu h0
  go_enter Tryd.func81, Tryd.ntmps81
  go_wp2_with fail
  rw [HW2.out]
  clear HW2
  refine (LA1.out W2 hB2.out).mono ?_
  rintro e w' ⟨rfl, rfl⟩
  skip
  go_wp2_with fail
  refine (LB1.out W2 hB2.out).mono ?_
  rintro e w' ⟨rfl, rfl⟩
  go_wp2_with fail
  refine (LP.out W2 hB2.out).mono ?_
  rintro e w3 ⟨rfl, hb3⟩
  have hB3 := Lib.hid (hB2.out.trans (hb3.mono hB2.out.size))
  have R3 := Lib.hid (R2.out.below hb3)
  have I3 := Lib.hid (I2.out.below hb3)
  clear hb3
  obtain ⟨r0, r1, q0, q1⟩ := R3.out.at
  obtain ⟨x0, x1, v0, v1⟩ := I3.out.at
  obtain ⟨W3, hW3⟩ : ∃ W3, w3.setCell ⟨w.heap.size + 1, 0, none⟩ (strV p) = W3 := ⟨_, rfl⟩
  have hB4 := Lib.hid (show Below w.heap.size w W3 from hW3 ▸ hB3.out.setCell (by simp) _)
  have R4 := Lib.hid (show Two W3 _ _ _ _ from hW3 ▸ R3.out.far (b' := w.heap.size + 1) (o := 0) (by omega) (strV p))
  have I4 := Lib.hid (show Two W3 _ _ _ _ from hW3 ▸ I3.out.set0 (strV p))
  go_wp2_with fail
  (try rw [hW3])
  clear hW3 r0 r1 q0 q1 x0 x1 v0 v1
  refine (LB.out W3 hB4.out).mono ?_
  rintro e w' ⟨rfl, rfl⟩
  go_wp2_with fail
  refine (LB.out W3 hB4.out).mono ?_
  rintro e w' ⟨rfl, rfl⟩
  go_wp2_with fail
  refine (LQ.out W3 hB4.out).mono ?_
  rintro e w8 ⟨rfl, hb8⟩
  have hB8 := Lib.hid (hB4.out.trans (hb8.mono hB4.out.size))
  have R8 := Lib.hid (R4.out.below hb8)
  have I8 := Lib.hid (I4.out.below hb8)
  clear hb8
  obtain ⟨r0, r1, q0, q1⟩ := R8.out.at
  obtain ⟨x0, x1, v0, v1⟩ := I8.out.at
  obtain ⟨s0, s1, _, _⟩ := ((R8.out.set0 (.string ⟨#[]⟩)).set1 (.string ⟨#[]⟩)).at
  go_wp2_with fail
  (try simp only [Exit.inBlock, Exit.then])
  refine bodyPost_ret (by simp [results, Tryd.results81, go_sem, s0, s1]; first | rfl | done) rfl (HP.out _ ?_)
  exact (hB8.out.setCell (Nat.le_refl _) _).setCell (Nat.le_refl _) _

set_option maxHeartbeats 8000000 in
theorem rext_pubok (l : List UInt8) (A : Option Addr) (n c j : Nat) (w : World) (hn : l.length = n) (hnc : n ≤ c) (hm : c ≤ 9223372036854775807) (hn9 : n ≤ 1000000) (hj6 : j ≤ n) (hs : Sees w A (vB l)) (a1 : atB l (j : Int) pubW = true) (h6 : j + 6 ≤ n) (k : Nat) (hk : blkN l l.length (j + 6) = k) (hkne : k ≠ j + 6) (hkn : k ≤ n) (p : List UInt8) (z : Nat) (hzn : z ≤ n) (hr : pubT l (k : Int) = (p, (z : Int), 0)) (q : Nat) (hq : blkN l l.length z = q) (hne : q ≠ z) (hqn : q ≤ n) (s : List UInt8) (y : Int) (hu : quoT l (q : Int) = (s, y, 0)) :
    Calls Tryd.prog 81 #[.slice A n c, .int .i64 (j : Int), .bool true] w (ExtPost ((p, s, y, 0)) w) := by
  have hj : j ≤ n := by omega
  have hbA := ((Below.refl _ w).alloc (Nat.le_refl _) (.cells #[.string ⟨#[]⟩, .string ⟨#[]⟩] 59)).alloc (by simp) (.cells #[.string ⟨#[]⟩, .string ⟨#[]⟩] 59)
  have R0 := (Two.new w (.string ⟨#[]⟩) (.string ⟨#[]⟩) 59 _ rfl).alloc (.cells #[.string ⟨#[]⟩, .string ⟨#[]⟩] 59)
  have I0 := Two.new (w.alloc (.cells #[.string ⟨#[]⟩, .string ⟨#[]⟩] 59)) (.string ⟨#[]⟩) (.string ⟨#[]⟩) 59 (w.heap.size + 1) (by simp)
  have i0 : (0 : Int) ≤ (j : Int) := by omega
  have i1 : (j : Int) ≤ (n : Int) := by omega
  have KA1 := fun (w' : World) (hb : Below w.heap.size w w') => rat_any l pubW A n c (j : Int) w' hn hnc hm hn9 ⟨by omega, by omega⟩ (by simp [pubW]) (by simp [pubW]) (hs.below hb)
  have KA2 := fun (w' : World) (hb : Below w.heap.size w w') => rat_any l sysW A n c (j : Int) w' hn hnc hm hn9 ⟨by omega, by omega⟩ (by simp [sysW]) (by simp [sysW]) (hs.below hb)
  rw [a1] at KA1
  skip
  have KB := fun (w' : World) (hb : Below w.heap.size w w') (i q : Nat) (k : Int) (hk : k = i) (hi : i ≤ n) (hq : blkN l l.length i = q) => (show Calls Tryd.prog 73 #[.slice A n c, .int .i64 k] w' fun e w'' => e = .returned (.int .i64 (q : Int)) ∧ w' = w'' from by
    subst hk; have h := rblanks_any l A n c (i : Int) w' hn hnc (by omega) ⟨by omega, by omega⟩ (hs.below hb); rw [blkV_in (by omega), hq] at h; exact h)
  have KQ := fun (w' : World) (hb : Below w.heap.size w w') (q : Nat) (s : List UInt8) (y e0 : Int) (hi : q ≤ n) (hq : quoT l (q : Int) = (s, y, e0)) => (show Calls Tryd.prog 114 #[.slice A n c, .int .i64 (q : Int)] w' fun e w'' => e = .returned (.tuple #[strV s, .int .i64 y, .int .i64 e0]) ∧ Below w'.heap.size w' w'' from by
    have h := rquoted_any l A n c (q : Int) w' hn hnc hm ⟨by omega, by omega⟩ hn9 (hs.below hb); rw [hq] at h; exact h)
  have KP := fun (w' : World) (hb : Below w.heap.size w w') (q : Nat) (s : List UInt8) (y e0 : Int) (hi : q ≤ n) (hq : pubT l (q : Int) = (s, y, e0)) => (show Calls Tryd.prog 116 #[.slice A n c, .int .i64 (q : Int)] w' fun e w'' => e = .returned (.tuple #[strV s, .int .i64 y, .int .i64 e0]) ∧ Below w'.heap.size w' w'' from by
    have h := rpublic_any l A n c (q : Int) w' hn hnc hm ⟨by omega, by omega⟩ hn9 (hs.below hb); rw [hq] at h; exact h)
  have HP := Lib.hid (show ∀ W', Below w.heap.size w W' → ExtPost ((p, s, y, 0)) w (.returned (.tuple #[.agg #[strV p, strV s], .int .i64 y, .int .i64 0])) W' from fun W' hb => ⟨rfl, hb⟩)
  obtain ⟨W2, hW2⟩ : ∃ W2, (w.alloc (.cells #[.string ⟨#[]⟩, .string ⟨#[]⟩] 59)).alloc (.cells #[.string ⟨#[]⟩, .string ⟨#[]⟩] 59) = W2 := ⟨_, rfl⟩
  rw [hW2] at hbA R0 I0
  have HW2 := Lib.hid hW2
  have hB2 := Lib.hid hbA
  have R2 := Lib.hid R0
  have I2 := Lib.hid I0
  have LA1 := Lib.hid KA1
  have LB1 := Lib.hid (fun (w' : World) (hb : Below w.heap.size w w') => KB w' hb (j + 6) k ((j : Int) + 6) (by omega) h6 hk)
  have tk : ((k : Int) == (j : Int) + 6) = false := by rw [beq_eq_false_iff_ne]; omega
  have LP := Lib.hid (fun (w' : World) (hb : Below w.heap.size w w') => KP w' hb k p (z : Int) 0 hkn hr)
  have LB := Lib.hid (fun (w' : World) (hb : Below w.heap.size w w') => KB w' hb z q (z : Int) rfl hzn hq)
  have tq : ((q : Int) == (z : Int)) = false := by rw [beq_eq_false_iff_ne]; omega
  have LQ := Lib.hid (fun (w' : World) (hb : Below w.heap.size w w') => KQ w' hb q s y 0 hqn hu)
  clear hW2 hs hn hbA R0 I0 KA1 KA2 KB KQ KP a1 hk hkne hr hq hne hu
  go_enter Tryd.func81, Tryd.ntmps81
  go_wp2_with fail
  rw [HW2.out]
  clear HW2
  refine (LA1.out W2 hB2.out).mono ?_
  rintro e w' ⟨rfl, rfl⟩
  skip
  go_wp2_with fail
  refine (LB1.out W2 hB2.out).mono ?_
  rintro e w' ⟨rfl, rfl⟩
  go_wp2_with fail
  refine (LP.out W2 hB2.out).mono ?_
  rintro e w3 ⟨rfl, hb3⟩
  have hB3 := Lib.hid (hB2.out.trans (hb3.mono hB2.out.size))
  have R3 := Lib.hid (R2.out.below hb3)
  have I3 := Lib.hid (I2.out.below hb3)
  clear hb3
  obtain ⟨r0, r1, q0, q1⟩ := R3.out.at
  obtain ⟨x0, x1, v0, v1⟩ := I3.out.at
  obtain ⟨W3, hW3⟩ : ∃ W3, w3.setCell ⟨w.heap.size + 1, 0, none⟩ (strV p) = W3 := ⟨_, rfl⟩
  have hB4 := Lib.hid (show Below w.heap.size w W3 from hW3 ▸ hB3.out.setCell (by simp) _)
  have R4 := Lib.hid (show Two W3 _ _ _ _ from hW3 ▸ R3.out.far (b' := w.heap.size + 1) (o := 0) (by omega) (strV p))
  have I4 := Lib.hid (show Two W3 _ _ _ _ from hW3 ▸ I3.out.set0 (strV p))
  go_wp2_with fail
  (try rw [hW3])
  clear hW3 r0 r1 q0 q1 x0 x1 v0 v1
  refine (LB.out W3 hB4.out).mono ?_
  rintro e w' ⟨rfl, rfl⟩
  go_wp2_with fail
  refine (LB.out W3 hB4.out).mono ?_
  rintro e w' ⟨rfl, rfl⟩
  go_wp2_with fail
  refine (LQ.out W3 hB4.out).mono ?_
  rintro e w8 ⟨rfl, hb8⟩
  have hB8 := Lib.hid (hB4.out.trans (hb8.mono hB4.out.size))
  have R8 := Lib.hid (R4.out.below hb8)
  have I8 := Lib.hid (I4.out.below hb8)
  clear hb8
  obtain ⟨r0, r1, q0, q1⟩ := R8.out.at
  obtain ⟨x0, x1, v0, v1⟩ := I8.out.at
  obtain ⟨s0, s1, _, _⟩ := (((R8.out.far (b' := w.heap.size + 1) (o := 1) (by omega) (strV s)).set0 (strV p)).set1 (strV s)).at
  go_wp2_with fail
  (try simp only [Exit.inBlock, Exit.then])
  refine bodyPost_ret (by simp [results, Tryd.results81, go_sem, s0, s1]; first | rfl | done) rfl (HP.out _ ?_)
  exact ((hB8.out.setCell (by simp) _).setCell (Nat.le_refl _) _).setCell (Nat.le_refl _) _
end Go.Proofs.YtdmfladcldkmeaaDoor
