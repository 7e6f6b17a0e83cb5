/- Which elements are open: one step, the elements ahead of a place, by package diff. -/
import Derived.Test.YtoiplpmjocemfaaEvw
import Derived.Maps.AppendAt
import Derived.OwnWalk
import Derived.OneCell
import Derived.Lib.SliceRun
namespace Go.Proofs.Ytoiplpmjocemfaa
open Go.ChangeShapes Go.WideShapes Go.ChangeAt Go.RowKit
set_option linter.unusedVariables false
set_option maxRecDepth 100000

theorem strInfo : (Try.prog.info? 9).map (fun i => (i.zero, i.size, i.bytes)) = some (some (.string ⟨#[]⟩), 1, 16) := by kernel_rfl
/-- Strings, as cells. -/
def sV (l : List ByteArray) : List Value := l.map Value.string
theorem sV_len (l : List ByteArray) : (sV l).length = l.length := by unfold sV; simp
theorem sV_one (l : List ByteArray) : ∀ u ∈ sV l, u.oneCell' = true := by
  intro u hu
  unfold sV at hu
  simp only [List.mem_map] at hu
  obtain ⟨c, _, rfl⟩ := hu
  rfl
theorem sV_append (l m : List ByteArray) : sV (l ++ m) = sV l ++ sV m := by unfold sV; simp
theorem own_take {w : World} {base : Nat} {e : TypeId} {A : Option Addr} {n c m : Nat} {xs : List Value} (h : w.ownsRow base e 1 (.slice A n c) n xs) (hm : m ≤ n) : w.ownsRow base e 1 (.slice A m c) m (xs.take m) := by
  have hl : xs.length = n := by simpa using h.1
  refine ⟨by rw [List.length_take, hl]; omega, ?_⟩
  rcases h.2 with ⟨e1, h0⟩ | ⟨g, cap, cur, e1, h1, h2, h3, h4, h5, h6⟩
  · injection e1 with e1 e2 e3
    subst e1 e3
    exact .inl ⟨by rw [show m = 0 by omega], by omega⟩
  · injection e1 with e1 e2 e3
    subst e1 e3
    refine .inr ⟨g, _, cur, rfl, h1, h2, by omega, h4, h5, ?_⟩
    rw [Nat.mul_one] at h6 ⊢
    rw [← Nat.min_eq_left hm, ← List.take_take, h6, Nat.min_eq_left hm]
theorem own_form2 {w : World} {base : Nat} {e : TypeId} {size n : Nat} {v : Value} {xs : List Value} (h : w.ownsRow base e size v n xs) : ∃ A c, v = .slice A n c := by
  rcases h.2 with ⟨h1, h2⟩ | ⟨g, cap, _, h1, _⟩
  · exact ⟨none, 0, by rw [h1, h2]⟩
  · exact ⟨_, _, h1⟩
theorem own_cap2 {w : World} {base : Nat} {e : TypeId} {A : Option Addr} {n m c size : Nat} {xs : List Value} (h : w.ownsRow base e size (.slice A m c) n xs) : n ≤ c ∧ c ≤ 9223372036854775807 := by
  rcases h.2 with ⟨h1, h2⟩ | ⟨g, cap, cur, h1, _, _, h4, h5, _⟩
  · injection h1 with _ _ h3; omega
  · injection h1 with _ _ h3; unfold maxLen at h5; omega
theorem own_below2 {w w' : World} {base : Nat} {e : TypeId} {size n : Nat} {v : Value} {xs : List Value} (h : w.ownsRow base e size v n xs) (hb : Below w.heap.size w w') : w'.ownsRow base e size v n xs := by
  refine ⟨h.1, ?_⟩
  rcases h.2 with hn | ⟨g, cap, cur, e1, h1, h2, h3⟩
  · exact .inl hn
  · exact .inr ⟨g, cap, cur, e1, h1, (hb.block g (Array.getElem?_eq_some_iff.1 h2).1).trans h2, h3⟩
theorem one_new (w : World) (x : Value) (t : TypeId) : ∀ j u, [x][j]? = some u → (w.alloc (.cells #[x] t)).cell? ((⟨w.heap.size, 0, none⟩ : Addr).add j) = some u := by
  intro j u h
  match j, h with
  | 0, h =>
    obtain rfl : x = u := by simpa using h
    simp [Addr.add, World.cell?_alloc_new]
theorem one_new_at (w : World) (x : Value) (t : TypeId) (B : Nat) (hB : w.heap.size = B) : ∀ j u, [x][j]? = some u → (w.alloc (.cells #[x] t)).cell? ((⟨B, 0, none⟩ : Addr).add j) = some u := by
  subst hB; exact one_new w x t
/-- The elements that are open behind an event. -/
def stepO (o : List ByteArray) (e : Ev) : List ByteArray := if e.kind = 1 then o ++ [e.lo] else if e.kind = 2 then o.dropLast else o
theorem stepO_len (o : List ByteArray) (e : Ev) : (stepO o e).length ≤ o.length + 1 := by
  unfold stepO
  split
  · simp
  · split
    · simp; omega
    · omega
/-- What a step tells: a row of the call's own; no other block has changed. -/
def StepPost (w : World) (base : Nat) (v : Value) (ys : List ByteArray) (e : Ending) (w' : World) : Prop :=
  ∃ A c, e = .returned (.slice A ys.length c) ∧ w'.ownsRow base 9 1 (.slice A ys.length c) ys.length (sV ys) ∧ w.heap.size ≤ w'.heap.size ∧ (∀ k, k < w.heap.size → some k ≠ v.ownBlock → w'.heap[k]? = w.heap[k]?) ∧
    ((Value.slice A ys.length c).ownBlock = v.ownBlock ∨ ∃ g, (Value.slice A ys.length c).ownBlock = some g ∧ w.heap.size ≤ g) ∧ Below base w w'

set_option maxHeartbeats 2000000 in
theorem step_any (x : Ev) (base : Nat) (A : Option Addr) (n c : Nat) (xs : List ByteArray) (w : World) (h : w.ownsRow base 9 1 (.slice A n c) n (sV xs)) (hbase : base ≤ w.heap.size) (hn9 : n ≤ 1000000) :
    Calls Try.prog 79 #[.slice A n c, evW x] w (StepPost w base (.slice A n c) (stepO xs x)) := by
  obtain ⟨k, sp, lo, at_, A1, c1, tx⟩ := x
  unfold evW stepO
  simp only
  have hl : xs.length = n := by have := h.1; rw [sV_len] at this; omega
  have hcap := own_cap2 h
  have hb1 := (Below.refl base w).alloc hbase (.cells #[.int .i64 k, .string sp, .string lo, .slice A1 at_.length c1, .string tx] 76)
  have hc := ev_block w _ w.heap.size (.int .i64 k) (.string sp) (.string lo) (.slice A1 at_.length c1) (.string tx) 76 rfl (Below.refl _ _)
  have hown := h.alloc (.cells #[.int .i64 k, .string sp, .string lo, .slice A1 at_.length c1, .string tx] 76)
  obtain ⟨p0, p1, p2, p3, p4⟩ := hc
  have HO := Lib.hid hown
  have HH := Lib.hid h
  have HL := Lib.hid hl
  clear hown h hl
  obtain ⟨i0, hi0, hz0, hz1, hz2⟩ := info_parts strInfo
  by_cases hk1 : k = 1
  · subst hk1
    rw [if_pos rfl]
    go_enter Try.func79, Try.ntmps79
    go_wp2_with (first | (at_builtin; refine wpList_append_own_at _ rfl _ _ 82 rfl base 9 i0 (.string ⟨#[]⟩) 1 16 Try.underlying82 hi0 hz0 hz1 hz2 rfl (by decide) _ n (sV xs) rfl (HO.out.alloc _) ⟨w.heap.size + 1, 0, none⟩ 1 1 (sV [lo]) rfl rfl (one_new_at _ (.string lo) _ _ (by simp)) (sV_one _) (by unfold maxLen; omega) (by omega) (by simp; omega) ?_; intro v' w2 hown2 hgrow2 _ hat2; obtain ⟨A2, c2, rfl⟩ := own_form2 hown2; have HO2 := Lib.hid hown2; have HG2 := Lib.hid hgrow2; have HAT := Lib.hid hat2; clear hown2 hgrow2 hat2))
    go_ret
    have hg := HG2.out
    have hll : (xs ++ [lo]).length = n + 1 := by rw [List.length_append, HL.out]; rfl
    refine ⟨A2, c2, by rw [hll]; rfl, by rw [hll, sV_append]; exact HO2.out, by have := hg.size; simp at this; omega, fun j hj hne => ?_, ?_, ?_⟩
    · exact (hg.block j (by simp; omega) hne).trans ((Below.heap_alloc _ _ _ (by simp; omega)).trans (Below.heap_alloc _ _ _ hj))
    · rw [hll]
      rcases HAT.out with e | e
      · exact .inl e
      · exact .inr ⟨_, e, by simp; omega⟩
    · exact (hb1.alloc (by simp; omega) _).grown hg (by simp; omega) (fun g hg' => (HH.out.lt g hg').1)
  · rw [if_neg hk1]
    have t1 : (k == 1) = false := by simpa using hk1
    by_cases hk2 : k = 2
    · subst hk2
      rw [if_pos rfl]
      by_cases hn0 : n = 0
      · subst hn0
        have hx0 : xs = [] := List.eq_nil_of_length_eq_zero HL.out
        subst hx0
        clear hk1
        go_enter Try.func79, Try.ntmps79
        go_wp2_with fail
        go_ret
        exact ⟨A, c, rfl, HO.out, by simp, fun j hj _ => Below.heap_alloc _ _ _ hj, .inl rfl, hb1⟩
      · obtain ⟨m, rfl⟩ : ∃ m, n = m + 1 := ⟨n - 1, by omega⟩
        have hd : xs.dropLast.length = m := by rw [List.length_dropLast, HL.out]; omega
        have hs : sV xs.dropLast = (sV xs).take m := by unfold sV; rw [← List.map_take, List.dropLast_eq_take, HL.out]; rfl
        have HT := Lib.hid (own_take HO.out (Nat.le_succ m))
        have HD := Lib.hid hd
        have HSS := Lib.hid hs
        have i0 : (0 : Int) ≤ (m : Int) := by omega
        have i1 : (m : Int) ≤ (c : Int) := by omega
        clear hd hs hk1 hn0
        go_enter Try.func79, Try.ntmps79
        go_wp2_with fail
        go_ret
        refine ⟨A, c, by rw [HD.out]; rfl, by rw [HD.out, HSS.out]; exact HT.out, by simp, fun j hj _ => Below.heap_alloc _ _ _ hj, .inl ?_, hb1⟩
        cases A <;> rfl
    · rw [if_neg hk2]
      have t2 : (k == 2) = false := by simpa using hk2
      clear hk1 hk2
      go_enter Try.func79, Try.ntmps79
      go_wp2_with fail
      go_ret
      have e := HL.out
      subst e
      exact ⟨A, c, rfl, HO.out, by simp, fun j hj _ => Below.heap_alloc _ _ _ hj, .inl rfl, hb1⟩
end Go.Proofs.Ytoiplpmjocemfaa
