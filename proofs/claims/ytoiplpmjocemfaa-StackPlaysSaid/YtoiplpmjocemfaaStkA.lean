/- A stack behind a pointer: what lies there, and the contracts of New, Len, Push, Top. -/
import Derived.Test.YtoiplpmjocemfaaSees
import Derived.Laws.AppendOwn
import Derived.OwnWalk
import Derived.OneCell
import Derived.Lib.SliceRun
import Derived.BigFrame
namespace Go.Proofs.Ytoiplpmjocemfaa
open Go.ChangeShapes Go.WideShapes Go.ChangeAt Go.RowKit
set_option linter.unusedVariables false

theorem sint_info : (Try.prog.info? 3).map (fun i => (i.zero, i.size, i.bytes)) = some (some (.int .i64 0), 1, 8) := by kernel_rfl
theorem own_form {W : World} {base : Nat} {e : TypeId} {size : Nat} {v : Value} {k : Nat} {xs : List Value} (h : W.ownsRow base e size v k xs) : ∃ A c, v = .slice A k c := by
  rcases h.2 with ⟨rfl, rfl⟩ | ⟨g, cap, _, rfl, _⟩
  · exact ⟨_, _, rfl⟩
  · exact ⟨_, _, rfl⟩
theorem new_cells (w : World) (l : List Value) (t : TypeId) : ∀ j u, l[j]? = some u → (w.alloc (.cells l.toArray t)).cell? ((⟨w.heap.size, 0, none⟩ : Addr).add j) = some u := by
  intro j u h
  have e : (⟨w.heap.size, 0, none⟩ : Addr).add j = ⟨w.heap.size, j, none⟩ := by
    unfold Addr.add; split
    · next h0 => rw [h0]
    · simp
  rw [e]
  simp [World.cell?_alloc_new, h]

/-- The numbers of a list, as values. -/
def vK (l : List Int) : List Value := l.map (Value.int .i64)
theorem vK_len (l : List Int) : (vK l).length = l.length := by unfold vK; simp
theorem vK_one (l : List Int) : ∀ u ∈ vK l, u.oneCell' = true := by
  intro u hu
  unfold vK at hu
  simp only [List.mem_map] at hu
  obtain ⟨c, _, rfl⟩ := hu
  rfl
/-- A stack of some room at block p: its things are the list. -/
structure StkAt (w : World) (p : Nat) (room : Int) (A : Option Addr) (n c : Nat) (xs : List Int) : Prop where
  len : xs.length = n
  blk : w.heap[p]? = some (.cells #[.int .i64 room, .slice A n c] 96 (0, 0))
  own : w.ownsRow (p + 1) 3 1 (.slice A n c) n (vK xs)
def Stk (w : World) (p : Nat) (room : Int) (xs : List Int) : Prop := ∃ A c, StkAt w p room A xs.length c xs

theorem cell_of_two {w : World} {b : Nat} {u v : Value} {t : TypeId} (h : w.heap[b]? = some (.cells #[u, v] t (0, 0))) : w.cell? ⟨b, 0, none⟩ = some u ∧ w.cell? ⟨b, 0 + 1, none⟩ = some v ∧ w.cell? ⟨b, 1, none⟩ = some v := by simp [World.cell?, h]
theorem free_of_two {w : World} {b : Nat} {u v : Value} {t : TypeId} (h : w.heap[b]? = some (.cells #[u, v] t (0, 0))) (o : Nat) : w.frozen? ⟨b, o, none⟩ = false := by simp [World.frozen?, h]
theorem two_setCell {w : World} {b : Nat} {u v x : Value} {t : TypeId} (h : w.heap[b]? = some (.cells #[u, v] t (0, 0))) : (w.setCell ⟨b, 1, none⟩ x).heap[b]? = some (.cells #[u, x] t (0, 0)) := by
  obtain ⟨hlt, hk⟩ := Array.getElem?_eq_some_iff.1 h
  show (w.heap.modify b _)[b]? = _
  rw [Array.getElem?_eq_getElem (by rw [Array.size_modify]; exact hlt), Array.getElem_modify_self, hk]
  rfl
theorem StkAt.lt {w : World} {p : Nat} {room : Int} {A : Option Addr} {n c : Nat} {xs : List Int} (h : StkAt w p room A n c xs) : p < w.heap.size := lt_of_block h.blk
theorem StkAt.below {w w' : World} {p : Nat} {room : Int} {A : Option Addr} {n c : Nat} {xs : List Int} (h : StkAt w p room A n c xs) (hb : Below w.heap.size w w') : StkAt w' p room A n c xs := by
  refine ⟨h.len, (hb.block p h.lt).trans h.blk, h.own.1, ?_⟩
  rcases h.own.2 with hn | ⟨g, cap, cur, e, h1, h2, h3⟩
  · exact .inl hn
  · exact .inr ⟨g, cap, cur, e, h1, (hb.block g (lt_of_block h2)).trans h2, h3⟩
theorem Stk.below {w w' : World} {p : Nat} {room : Int} {xs : List Int} (h : Stk w p room xs) (hb : Below w.heap.size w w') : Stk w' p room xs := by
  obtain ⟨A, c, h⟩ := h; exact ⟨A, c, h.below hb⟩
theorem Stk.drewN {w : World} {p : Nat} {room : Int} {xs : List Int} (h : Stk w p room xs) (n : Nat) : Stk (w.drewN n) p room xs := h.below (below_dr (Below.refl _ _) n)

theorem own_succ {W : World} {base : Nat} {e : TypeId} {size : Nat} {v : Value} {k : Nat} {xs : List Value} (h : W.ownsRow base e size v (k + 1) xs) : ∃ g cap, v = .slice (some ⟨g, 0, none⟩) (k + 1) cap := by
  rcases h.2 with ⟨_, h0⟩ | ⟨g, cap, _, rfl, _⟩
  · omega
  · exact ⟨g, cap, rfl⟩
theorem StkAt.off {w : World} {p : Nat} {room : Int} {A : Option Addr} {n c : Nat} {xs : List Int} (h : StkAt w p room A n c xs) : some p ≠ Value.ownBlock (.slice A n c) := by
  intro e
  have := h.own.lt p e.symm
  omega
theorem StkAt.appended {w w1 : World} {p : Nat} {room x : Int} {A : Option Addr} {n c g c1 : Nat} {xs : List Int} {o : Obj} (h : StkAt w p room A n c xs)
    (ho : w1.ownsRow (p + 1) 3 1 (.slice (some ⟨g, 0, none⟩) (n + 1) c1) (n + 1) (vK xs ++ vK [x])) (hg : (w.alloc o).grownBy w1 (Value.ownBlock (.slice A n c))) :
    w1.cell? ⟨p, 1, none⟩ = some (.slice A n c) ∧ w1.frozen? ⟨p, 1, none⟩ = false ∧ StkAt (w1.setCell ⟨p, 1, none⟩ (.slice (some ⟨g, 0, none⟩) (n + 1) c1)) p room (some ⟨g, 0, none⟩) (n + 1) c1 (xs ++ [x]) ∧
      Below p w (w1.setCell ⟨p, 1, none⟩ (.slice (some ⟨g, 0, none⟩) (n + 1) c1)) := by
  have hb : w1.heap[p]? = some (.cells #[.int .i64 room, .slice A n c] 96 (0, 0)) :=
    (hg.block p (by have := h.lt; simp; omega) h.off).trans ((Below.heap_alloc w o p h.lt).trans h.blk)
  have hlt := h.lt
  refine ⟨(cell_of_two hb).2.2, free_of_two hb 1, ⟨by simp [h.len], two_setCell hb, ?_⟩, ?_⟩
  · have := ownsRow_setCell_below ho (a := ⟨p, 1, none⟩) (by simp) (.slice (some ⟨g, 0, none⟩) (n + 1) c1)
    unfold vK at this ⊢
    rw [List.map_append]
    exact this
  · refine (((Below.refl p w).alloc (by omega) o).grown hg (by simp; omega) (fun k hk => ?_)).setCell (p := ⟨p, 1, none⟩) (Nat.le_refl _) _
    have := h.own.lt k hk
    omega

set_option maxHeartbeats 400000 in
theorem stkNew_any (room : Int) (w : World) (h0 : 0 ≤ room) (h1 : room ≤ 1099511627776) :
    Calls Try.prog 13 #[.int .i64 room] w fun e w' => e = .returned (.tuple #[.pointer (some ⟨w.heap.size, 0, none⟩), .int .i64 0]) ∧ Stk w' w.heap.size room [] ∧ Below w.heap.size w w' := by
  go_enter Try.func13, Try.ntmps13
  go_wp2
  go_ret2
  refine ⟨rfl, ⟨none, 0, rfl, heap_alloc_new w _, World.ownsRow_nil _ _ _ _⟩, (Below.refl _ _).alloc (Nat.le_refl _) _⟩

set_option maxHeartbeats 400000 in
theorem stkLen_any (w : World) (p : Nat) (room : Int) (xs : List Int) (h : Stk w p room xs) :
    Calls Try.prog 26 #[.pointer (some ⟨p, 0, none⟩)] w fun e w' => e = .returned (.int .i64 xs.length) ∧ w = w' := by
  obtain ⟨A, c, h⟩ := h
  obtain ⟨c0, c1, c2⟩ := cell_of_two h.blk
  go_enter Try.func26, Try.ntmps26
  go_wp2
  go_ret
  exact ⟨rfl, rfl⟩

set_option maxHeartbeats 1000000 in
theorem stkPush_full (w : World) (p : Nat) (room x : Int) (xs : List Int) (h : Stk w p room xs) (hr : room ≤ xs.length) :
    Calls Try.prog 17 #[.pointer (some ⟨p, 0, none⟩), .int .i64 x] w fun e w' => e = .returned (.int .i64 11) ∧ Stk w' p room xs ∧ Below w.heap.size w w' := by
  obtain ⟨A, c, h'⟩ := h
  obtain ⟨c0, c1, c2⟩ := cell_of_two h'.blk
  obtain ⟨n, hn⟩ : ∃ n, xs.length = n := ⟨_, rfl⟩
  rw [hn] at hr c1 c2 h'
  have HS := Lib.hid h'
  have HN := Lib.hid hn
  clear h' hn
  go_enter Try.func17, Try.ntmps17
  go_wp2
  go_quiet (fail)
  go_wp2
  go_ret
  refine ⟨rfl, ⟨A, c, ?_⟩, below_dr (Below.refl _ _) _⟩
  rw [HN.out]
  exact HS.out.below (below_dr (Below.refl _ _) _)

set_option maxRecDepth 100000 in
set_option maxHeartbeats 2000000 in
theorem stkPush_room (w : World) (p : Nat) (room x : Int) (xs : List Int) (h : Stk w p room xs) (hr : xs.length < room) (hb : xs.length < 1099511627776) :
    Calls Try.prog 17 #[.pointer (some ⟨p, 0, none⟩), .int .i64 x] w fun e w' => e = .returned (.int .i64 0) ∧ Stk w' p room (xs ++ [x]) ∧ Below p w w' := by
  obtain ⟨A, c, h'⟩ := h
  obtain ⟨c0, c1, c2⟩ := cell_of_two h'.blk
  obtain ⟨n, hn⟩ : ∃ n, xs.length = n := ⟨_, rfl⟩
  rw [hn] at hr hb c1 c2 h'
  have HS := Lib.hid h'
  have HN := Lib.hid hn
  have hp := h'.lt
  clear h' hn
  obtain ⟨i0, hi0, hz0, hz1, hz2⟩ := info_parts sint_info
  go_enter Try.func17, Try.ntmps17
  go_wp2
  go_quiet (fail)
  rename_i nq
  have HO := Lib.hid (show (w.drewN nq).ownsRow (p + 1) 3 1 (.slice A n c) n (vK xs) from HS.out.own)
  go_wp2_with (first | (at_builtin; refine wpList_append_own _ rfl _ _ 30 rfl (p + 1) 3 i0 (.int .i64 0) 1 8 Try.underlying30 hi0 hz0 hz1 hz2 rfl (by decide) _ n (vK xs) rfl (HO.out.alloc _) ⟨w.heap.size, 0, none⟩ 1 1 (vK [x]) rfl rfl (new_cells (w.drewN nq) (vK [x]) _) (vK_one _) (by unfold maxLen; omega) (by omega) (by simp; omega) ?_; intro v' w1 hown1 hgrow1 _; obtain ⟨g1, cp1, rfl⟩ := own_succ hown1; obtain ⟨k1, k2, k3, k4⟩ := (HS.out.below (below_dr (Below.refl _ _) nq)).appended hown1 hgrow1; clear hown1 hgrow1; have HA := Lib.hid k3; clear k3))
  go_ret
  refine ⟨rfl, ⟨some ⟨g1, 0, none⟩, cp1, ?_⟩, (below_dr (Below.refl _ _) nq).trans k4⟩
  rw [List.length_append, HN.out]
  exact HA.out
end Go.Proofs.Ytoiplpmjocemfaa
