/- A stack behind a pointer: the contracts of Top, Cut, Pop; and what is told of no stack. -/
import Derived.Test.YtoiplpmjocemfaaStkA
namespace Go.Proofs.Ytoiplpmjocemfaa
open Go.ChangeShapes Go.WideShapes Go.ChangeAt Go.RowKit
set_option linter.unusedVariables false

theorem szero (w : World) : (zeroValue 3).run Try.prog w = .ok (.int .i64 0) w := by kernel_rfl
theorem setCells_row (g : Nat) (e : TypeId) : ∀ (vs : List Value) (o : Nat) (w : World) (cur : Array Value), w.heap[g]? = some (.cells cur e (0, 0)) →
    ∃ cur' : Array Value, (w.setCells g o vs).heap[g]? = some (.cells cur' e (0, 0)) ∧ cur'.size = cur.size ∧ cur'.toList.take o = cur.toList.take o
  | [], o, w, cur, h => ⟨cur, h, rfl, rfl⟩
  | v :: r, o, w, cur, h => by
    obtain ⟨cur', h1, h2, h3⟩ := setCells_row g e r (o + 1) (w.setCell ⟨g, o, none⟩ v) (cur.setIfInBounds o v) (heap_setCell_same w g o cur e v h)
    refine ⟨cur', h1, by simpa using h2, ?_⟩
    have : (cur'.toList.take (o + 1)).take o = ((cur.setIfInBounds o v).toList.take (o + 1)).take o := by rw [h3]
    rw [List.take_take, List.take_take, Nat.min_eq_left (Nat.le_succ o)] at this
    rw [this, Array.toList_setIfInBounds, List.take_set_of_le (Nat.le_refl o)]
theorem setCells_size (g : Nat) : ∀ (vs : List Value) (o : Nat) (w : World), (w.setCells g o vs).heap.size = w.heap.size
  | [], _, _ => rfl
  | v :: r, o, w => by rw [World.setCells, setCells_size g r (o + 1)]; simp
theorem setCells_tape (g : Nat) : ∀ (vs : List Value) (o : Nat) (w : World), (w.setCells g o vs).tape = w.tape
  | [], _, _ => rfl
  | v :: r, o, w => by rw [World.setCells, setCells_tape g r (o + 1)]; rfl
theorem setCells_off (g : Nat) (k : Nat) (hk : k ≠ g) : ∀ (vs : List Value) (o : Nat) (w : World), (w.setCells g o vs).heap[k]? = w.heap[k]?
  | [], _, _ => rfl
  | v :: r, o, w => by rw [World.setCells, setCells_off g k hk r (o + 1), Below.heap_setCell _ _ _ _ hk]
theorem below_setCells {B : Nat} {a w : World} (h : Below B a w) {g : Nat} (hg : B ≤ g) (o : Nat) (vs : List Value) : Below B a (w.setCells g o vs) := by
  induction vs generalizing o w with
  | nil => exact h
  | cons v r ih => exact ih (h.setCell (p := ⟨g, o, none⟩) hg v) (o + 1)

theorem StkAt.top {w : World} {p : Nat} {room : Int} {A : Option Addr} {m c : Nat} {xs : List Int} {x : Int} (h : StkAt w p room A (m + 1) c (xs ++ [x])) : ∃ g, A = some ⟨g, 0, none⟩ ∧ w.cell? ⟨g, m, none⟩ = some (.int .i64 x) := by
  obtain ⟨g, cap, e⟩ := own_succ h.own
  injection e with e1 e2 e3
  subst e1
  refine ⟨g, rfl, ?_⟩
  have hm : xs.length = m := by have := h.len; simp at this; omega
  have := h.own.cells (g := g) rfl m (.int .i64 x) (by unfold vK; rw [List.getElem?_map, ← hm]; simp)
  have e : (⟨g, 0, none⟩ : Addr).add m = ⟨g, m, none⟩ := by
    unfold Addr.add; split
    · next h0 => rw [h0]
    · simp
  rwa [e] at this

set_option maxHeartbeats 1000000 in
theorem stkTop_some (w : World) (p : Nat) (room x : Int) (xs : List Int) (h : Stk w p room (xs ++ [x])) (hb : xs.length < 1099511627776) :
    Calls Try.prog 22 #[.pointer (some ⟨p, 0, none⟩)] w fun e w' => e = .returned (.tuple #[.int .i64 x, .bool true]) ∧ Below w.heap.size w w' := by
  have hL := stkLen_any w p room _ h
  obtain ⟨A, c, h'⟩ := h
  rw [List.length_append] at h' hL
  obtain ⟨c0, c1, c2⟩ := cell_of_two h'.blk
  simp only [List.length_cons, List.length_nil, Nat.zero_add] at h' hL c1 c2
  obtain ⟨n, hn⟩ : ∃ n, xs.length = n := ⟨_, rfl⟩
  rw [hn] at hb hL c1 c2 h'
  obtain ⟨g, rfl, hc⟩ := h'.top
  have HL := Lib.hid hL
  have HS := Lib.hid h'
  have hz : ((n : Int) + 1 == 0) = false := by simp; omega
  have hz' : (((n + 1 : Nat) : Int) == 0) = false := by simp; omega
  clear h' hn hL
  go_enter Try.func22, Try.ntmps22
  go_wp2_with (go_at_call 26; refine HL.out.mono ?_; rintro e w' ⟨rfl, rfl⟩)
  go_quiet (fail)
  go_wp2
  go_ret2
  exact ⟨rfl, below_dr (Below.refl _ _) _⟩

set_option maxHeartbeats 1000000 in
theorem stkTop_none (w : World) (p : Nat) (room : Int) (h : Stk w p room []) :
    Calls Try.prog 22 #[.pointer (some ⟨p, 0, none⟩)] w fun e w' => e = .returned (.tuple #[.int .i64 0, .bool false]) ∧ w = w' := by
  have HL := Lib.hid (stkLen_any w p room _ h)
  go_enter Try.func22, Try.ntmps22
  go_wp2_with (go_at_call 26; refine HL.out.mono ?_; rintro e w' ⟨rfl, rfl⟩)
  go_ret2
  exact ⟨rfl, rfl⟩

theorem StkAt.cut {w : World} {p : Nat} {room : Int} {A : Option Addr} {n c : Nat} {xs : List Int} (h : StkAt w p room A n c xs) (m : Nat) (hm : m ≤ n) :
    StkAt (w.setCell ⟨p, 1, none⟩ (.slice A m c)) p room A m c (xs.take m) := by
  refine ⟨by rw [List.length_take, h.len]; omega, two_setCell h.blk, ?_⟩
  refine ownsRow_setCell_below ?_ (a := ⟨p, 1, none⟩) (by simp) _
  refine ⟨by rw [vK_len, List.length_take, h.len]; omega, ?_⟩
  rcases h.own.2 with ⟨e, h0⟩ | ⟨g, cap, cur, e, h1, h2, h3, h4, h5, h6⟩
  · injection e with e1 e2 e3
    subst e1 e2 e3
    exact .inl ⟨by rw [show m = 0 by omega], by omega⟩
  · injection e with e1 e2 e3
    subst e1 e3
    refine .inr ⟨g, _, cur, rfl, h1, h2, by omega, h4, h5, ?_⟩
    rw [Nat.mul_one] at h6 ⊢
    rw [← Nat.min_eq_left hm, ← List.take_take, h6]
    unfold vK
    rw [Nat.min_eq_left hm, List.map_take]
theorem StkAt.cleared {w : World} {p : Nat} {room : Int} {g n c : Nat} {xs : List Int} (h : StkAt w p room (some ⟨g, 0, none⟩) n c xs) (m : Nat) (hm : m ≤ n) (vs : List Value) :
    (w.setCells g m vs).cell? ⟨p, 1, none⟩ = some (.slice (some ⟨g, 0, none⟩) n c) ∧ (w.setCells g m vs).frozen? ⟨p, 1, none⟩ = false ∧
    StkAt ((w.setCells g m vs).setCell ⟨p, 1, none⟩ (.slice (some ⟨g, 0, none⟩) m c)) p room (some ⟨g, 0, none⟩) m c (xs.take m) ∧
    Below p w ((w.setCells g m vs).setCell ⟨p, 1, none⟩ (.slice (some ⟨g, 0, none⟩) m c)) := by
  have hpg := (h.own.lt g rfl).1
  have hb : (w.setCells g m vs).heap[p]? = some (.cells #[.int .i64 room, .slice (some ⟨g, 0, none⟩) n c] 96 (0, 0)) := (setCells_off g p (by omega) vs m w).trans h.blk
  refine ⟨(cell_of_two hb).2.2, free_of_two hb 1, ⟨by rw [List.length_take, h.len]; omega, two_setCell hb, ?_⟩, (below_setCells (Below.refl p w) (g := g) (by omega) _ _).setCell (p := ⟨p, 1, none⟩) (Nat.le_refl _) _⟩
  refine ownsRow_setCell_below ?_ (a := ⟨p, 1, none⟩) (by simp) _
  refine ⟨by rw [vK_len, List.length_take, h.len]; omega, ?_⟩
  rcases h.own.2 with ⟨e, h0⟩ | ⟨g, cap, cur, e, h1, h2, h3, h4, h5, h6⟩
  · cases e
  · injection e with e1 e2 e3
    injection e1 with e1
    injection e1 with e1
    subst e1 e3
    obtain ⟨cur', k1, k2, k3⟩ := setCells_row g 3 vs m w cur h2
    refine .inr ⟨g, _, cur', rfl, h1, k1, by omega, h4, by rw [k2]; exact h5, ?_⟩
    rw [Nat.mul_one] at h6 ⊢
    rw [k3, ← Nat.min_eq_left hm, ← List.take_take, h6]
    unfold vK
    rw [Nat.min_eq_left hm, List.map_take]

theorem own_cap {w : World} {base : Nat} {e : TypeId} {A : Option Addr} {n m c size : Nat} {xs : List Value} (h : w.ownsRow base e size (.slice A m c) n xs) : n ≤ c ∧ c ≤ 9223372036854775807 := by
  rcases h.2 with ⟨h1, h2⟩ | ⟨g, cap, cur, h1, _, _, h4, h5, _⟩
  · injection h1 with _ _ h3; omega
  · injection h1 with _ _ h3; unfold maxLen at h5; omega
set_option maxRecDepth 100000 in
set_option maxHeartbeats 1000000 in
/-- Cut where nothing goes. -/
theorem stkCut_all (w : World) (p : Nat) (room k : Int) (xs : List Int) (h : Stk w p room xs) (hk : xs.length ≤ k) :
    Calls Try.prog 21 #[.pointer (some ⟨p, 0, none⟩), .int .i64 k] w fun e w' => e = .returned (.tuple #[]) ∧ Stk w' p room xs ∧ Below p w w' := by
  obtain ⟨A, c, h'⟩ := h
  obtain ⟨c0, c1, c2⟩ := cell_of_two h'.blk
  obtain ⟨n, hn⟩ : ∃ n, xs.length = n := ⟨_, rfl⟩
  rw [hn] at hk c1 c2 h'
  have f1 := free_of_two h'.blk 1
  have hnc := (own_cap h'.own).1
  have hh := h'.cut n (Nat.le_refl n)
  rw [List.take_of_length_le (by rw [hn]; omega)] at hh
  have HS := Lib.hid hh
  have HN := Lib.hid hn
  have hcl : ∀ (a : Option Addr) (c : Nat) ty, (Builtin.clear_ #[30] ty #[.slice a 0 c]).run Try.prog w = .ok (.tuple #[]) w := fun a c ty => by
    cases a <;> simp [Builtin.clear_, run_underlying Try.underlying30]
  clear h' hn hh
  rcases Int.lt_or_eq_of_le hk with hk1 | rfl
  · by_cases hcn : c = n
    · subst hcn
      go_enter Try.func21, Try.ntmps21
      go_wp2_with (simp only [hcl])
      go_end0
      refine ⟨rfl, ⟨A, c, ?_⟩, (Below.refl p w).setCell (p := ⟨p, 1, none⟩) (Nat.le_refl _) _⟩
      rw [HN.out]
      exact HS.out
    · go_enter Try.func21, Try.ntmps21
      go_wp2_with (simp only [hcl])
      go_end0
      refine ⟨rfl, ⟨A, c, ?_⟩, (Below.refl p w).setCell (p := ⟨p, 1, none⟩) (Nat.le_refl _) _⟩
      rw [HN.out]
      exact HS.out
  · by_cases hcn : c = n
    · subst hcn
      go_enter Try.func21, Try.ntmps21
      go_wp2_with (simp only [hcl])
      go_end0
      refine ⟨rfl, ⟨A, c, ?_⟩, (Below.refl p w).setCell (p := ⟨p, 1, none⟩) (Nat.le_refl _) _⟩
      rw [HN.out]
      exact HS.out
    · go_enter Try.func21, Try.ntmps21
      go_wp2_with (simp only [hcl])
      go_end0
      refine ⟨rfl, ⟨A, c, ?_⟩, (Below.refl p w).setCell (p := ⟨p, 1, none⟩) (Nat.le_refl _) _⟩
      rw [HN.out]
      exact HS.out
theorem add_zero_block (g m : Nat) : (⟨g, 0, none⟩ : Addr).add m = ⟨g, m, none⟩ := by
  unfold Addr.add; split
  · next h0 => rw [h0]
  · simp
theorem StkAt.clears {w : World} {p : Nat} {room : Int} {A : Option Addr} {n c : Nat} {xs : List Int} (h : StkAt w p room A n c xs) (m : Nat) (hm : m < n) :
    ∃ g, A = some ⟨g, 0, none⟩ ∧ m < c ∧ ∀ ty, (Builtin.clear_ #[30] ty #[.slice (some ⟨g, m, none⟩) (n - m) (c - m)]).run Try.prog w = .ok (.tuple #[]) (w.setCells g m (List.replicate (n - m) (.int .i64 0))) := by
  rcases h.own.2 with ⟨e, h0⟩ | ⟨g, cap, cur, e, h1, h2, h3, h4, h5, h6⟩
  · omega
  · injection e with e1 e2 e3
    subst e1 e3
    refine ⟨g, rfl, by omega, fun ty => Lib.run_clear_slice w 30 3 ty (.int .i64 0) Try.underlying30 szero rfl rfl g m (n - m) (c - m) (by omega) (fun j hj => ?_) (fun j hj => ?_)⟩
    · have := h.own.cells (g := g) rfl (m + j) _ (List.getElem?_eq_getElem (by rw [vK_len, h.len]; omega))
      rw [add_zero_block] at this
      rw [this]; rfl
    · exact h.own.frozenAt _

set_option maxRecDepth 100000 in
set_option maxHeartbeats 1000000 in
/-- Cut where something goes. -/
theorem stkCut_to (w : World) (p : Nat) (room k : Int) (m : Nat) (xs : List Int) (h : Stk w p room xs) (hk : m < xs.length) (hb : xs.length < 1099511627776) (hkm : k = m ∨ (k < 0 ∧ m = 0)) :
    Calls Try.prog 21 #[.pointer (some ⟨p, 0, none⟩), .int .i64 k] w fun e w' => e = .returned (.tuple #[]) ∧ Stk w' p room (xs.take m) ∧ Below p w w' := by
  obtain ⟨A, c, h'⟩ := h
  obtain ⟨c0, c1, c2⟩ := cell_of_two h'.blk
  obtain ⟨n, hn⟩ : ∃ n, xs.length = n := ⟨_, rfl⟩
  rw [hn] at hk hb c1 c2 h'
  have hnc := (own_cap h'.own).1
  obtain ⟨g, rfl, hmc, hcl⟩ := h'.clears m hk
  obtain ⟨k1, k2, k3, k4⟩ := h'.cleared m (by omega) (List.replicate (n - m) (.int .i64 0))
  have HS := Lib.hid k3
  have HN := Lib.hid hn
  have HB := Lib.hid k4
  have f1 := free_of_two h'.blk 1
  have hcm : ¬ c = m := by omega
  have hmn : ¬ n ≤ m := by omega
  clear h' hn k3 k4
  have hmc' : m ≤ c := by omega
  rcases hkm with rfl | ⟨hk0, rfl⟩
  · go_enter Try.func21, Try.ntmps21
    go_wp2_with (simp only [hcl])
    go_end0
    refine ⟨rfl, ⟨some ⟨g, 0, none⟩, c, ?_⟩, HB.out⟩
    rw [List.length_take, HN.out, Nat.min_eq_left (by omega)]
    exact HS.out
  · have hcl0 : ∀ ty, (Builtin.clear_ #[30] ty #[.slice (some ⟨g, 0, none⟩) n c]).run Try.prog w = .ok (.tuple #[]) (w.setCells g 0 (List.replicate n (.int .i64 0))) := hcl
    have k1' : (w.setCells g 0 (List.replicate n (.int .i64 0))).cell? ⟨p, 1, none⟩ = some (.slice (some ⟨g, 0, none⟩) n c) := k1
    have k2' : (w.setCells g 0 (List.replicate n (.int .i64 0))).frozen? ⟨p, 1, none⟩ = false := k2
    clear hcl k1 k2
    go_enter Try.func21, Try.ntmps21
    go_wp2_with (simp only [hcl0])
    go_end0
    refine ⟨rfl, ⟨some ⟨g, 0, none⟩, c, ?_⟩, HB.out⟩
    rw [List.length_take, HN.out, Nat.min_eq_left (by omega)]
    exact HS.out
end Go.Proofs.Ytoiplpmjocemfaa
