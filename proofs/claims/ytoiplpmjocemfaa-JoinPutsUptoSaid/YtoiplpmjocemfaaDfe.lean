/- The places of all elements that lie on a path, by package diff. -/
import Derived.Test.YtoiplpmjocemfaaDfd
namespace Go.Proofs.Ytoiplpmjocemfaa
open Go.ChangeShapes Go.WideShapes Go.ChangeAt Go.RowKit
set_option linter.unusedVariables false
set_option maxRecDepth 100000

theorem intInfo : (Try.prog.info? 3).map (fun i => (i.zero, i.size, i.bytes)) = some (some (.int .i64 0), 1, 8) := by kernel_rfl
def iV (l : List Int) : List Value := l.map (Value.int .i64)
theorem iV_len (l : List Int) : (iV l).length = l.length := by unfold iV; simp
theorem iV_one (l : List Int) : ∀ u ∈ iV l, u.oneCell' = true := by
  intro u hu
  unfold iV at hu
  simp only [List.mem_map] at hu
  obtain ⟨c, _, rfl⟩ := hu
  rfl
theorem iV_append (l m : List Int) : iV (l ++ m) = iV l ++ iV m := by unfold iV; simp
/-- Rows of two types don't share a block. -/
theorem own_apart {w : World} {b1 b2 : Nat} {e1 e2 : TypeId} {s1 s2 n1 n2 : Nat} {v1 v2 : Value} {x1 x2 : List Value} (h1 : w.ownsRow b1 e1 s1 v1 n1 x1) (h2 : w.ownsRow b2 e2 s2 v2 n2 x2) (hne : e1 ≠ e2) : ∀ g, v1.ownBlock = some g → some g ≠ v2.ownBlock := by
  intro g hg hg2
  rcases h1.2 with ⟨rfl, _⟩ | ⟨g1, c1, cur1, rfl, _, k1, _⟩
  · cases hg
  · rcases h2.2 with ⟨rfl, _⟩ | ⟨g2, c2, cur2, rfl, _, k2, _⟩
    · cases hg2
    · obtain rfl : g1 = g := by injection hg
      obtain rfl : g1 = g2 := by injection hg2
      rw [k1] at k2
      injection k2 with k2
      injection k2 with _ k2
      exact hne k2
theorem own_frame {w w' : World} {base : Nat} {e : TypeId} {size n : Nat} {v : Value} {xs : List Value} {row : Option Nat} (h : w.ownsRow base e size v n xs) (hf : ∀ k, k < w.heap.size → some k ≠ row → w'.heap[k]? = w.heap[k]?)
    (hr : ∀ g, v.ownBlock = some g → some g ≠ row) : w'.ownsRow base e size v n xs := by
  refine ⟨h.1, ?_⟩
  rcases h.2 with hn | ⟨g, cap, cur, e1, h1, h2, h3⟩
  · exact .inl hn
  · exact .inr ⟨g, cap, cur, e1, h1, (hf g (Array.getElem?_eq_some_iff.1 h2).1 (hr g (by rw [e1]; rfl))).trans h2, h3⟩
/-- The places of the elements of a path, among the first events. -/
def findN (l : List Ev) (p : List ByteArray) : Nat → List Int
  | 0 => []
  | k + 1 => findN l p k ++ (match l[k]? with | some e => if e.kind = 1 ∧ rowE sE (openN l (k + 1)) p = true then [(k : Int)] else [] | none => [])
theorem findN_at {l : List Ev} {p : List ByteArray} {k : Nat} {e : Ev} (h : l[k]? = some e) : findN l p (k + 1) = findN l p k ++ (if e.kind = 1 ∧ rowE sE (openN l (k + 1)) p = true then [(k : Int)] else []) := by rw [findN, h]
theorem findN_len (l : List Ev) (p : List ByteArray) : ∀ k, (findN l p k).length ≤ k
  | 0 => by simp [findN]
  | k + 1 => by
    have ih := findN_len l p k
    rw [findN, List.length_append]
    split
    · split <;> simp <;> omega
    · simp; omega
def FindPost (w : World) (xs : List Int) (e : Ending) (w' : World) : Prop :=
  ∃ A c, e = .returned (.slice A xs.length c) ∧ Sees w' A (iV xs) ∧ xs.length ≤ c ∧ c ≤ 9223372036854775807 ∧ Below w.heap.size w w'
def FindRel (l : List Ev) (p : List ByteArray) (m : Nat) (w : World) (v5 v6 i : Value) (wr : World) : Prop :=
  ∃ (j n q : Nat) (A B : Option Addr) (c d : Nat), j ≤ m ∧ i = .int .i64 j ∧ v6 = .slice A n c ∧ (openN l j).length = n ∧ wr.ownsRow w.heap.size 9 1 (.slice A n c) n (sV (openN l j)) ∧
    v5 = .slice B q d ∧ (findN l p j).length = q ∧ wr.ownsRow w.heap.size 3 1 (.slice B q d) q (iV (findN l p j)) ∧ Below w.heap.size w wr

set_option maxHeartbeats 8000000 in
theorem find_any (l : List Ev) (p : List ByteArray) (A P : Option Addr) (n c np cp : Nat) (w : World) (hl : l.length = n) (hp : p.length = np) (hnc : n ≤ c) (hc9 : c ≤ 9223372036854775807) (hn9 : n ≤ 1000000) (hp9 : np ≤ 1000000) (hA : EvsOk w A l) (hP : Sees w P (sV p)) :
    Calls Try.prog 57 #[.slice A n c, .slice P np cp] w (FindPost w (findN l p n)) := by
  have HL := Lib.hid hl
  have HPL := Lib.hid hp
  have HA := Lib.hid hA
  have HP := Lib.hid hP
  obtain ⟨i0, hi0, hz0, hz1, hz2⟩ := info_parts intInfo
  clear hl hA hp hP
  go_enter Try.func57, Try.ntmps57
  go_wp2_with fail
  go_loopw [5, 6, 11] (fun v5 v6 i wr => FindRel l p n w v5 v6 i wr) (fun _ _ i _ => n - (intOf i).toNat)
  case atStart => exact ⟨0, 0, 0, none, none, 0, 0, by omega, rfl, rfl, rfl, World.ownsRow_nil _ _ _ _, rfl, rfl, World.ownsRow_nil _ _ _ _, Below.refl _ _⟩
  case round =>
    obtain ⟨j, q, qf, A2, B2, c2, d2, hj, rfl, rfl, hq, hown, rfl, hqf, hownf, hbw⟩ := hrel
    have hq9 : q ≤ j := by rw [← hq]; exact openN_len l j
    have hqf9 : qf ≤ j := by rw [← hqf]; exact findN_len l p j
    have HO := Lib.hid hown
    have HQ := Lib.hid hq
    have HOF := Lib.hid hownf
    have HQF := Lib.hid hqf
    clear hown hq hownf hqf
    by_cases hlt : j < n
    · obtain ⟨a, ha⟩ : ∃ a, l[j]? = some a := ⟨_, List.getElem?_eq_getElem (by rw [HL.out]; omega)⟩
      obtain ⟨x, rfl, x0, x1, x2, x3, x4⟩ := (HA.out.below hbw).sees.ev ha
      have HN := Lib.hid (openN_succ ha)
      have HFN := Lib.hid (findN_at (p := p) ha)
      have i0' : (0 : Int) ≤ (j : Int) := by omega
      have i1 : (j : Int) < (n : Int) := by omega
      have hws := hbw.size
      clear ha
      go_wp2_with fail
      have hap := own_apart (HOF.out.alloc (.cells #[.int .i64 a.kind, .string a.sp, .string a.lo, .slice a.A a.at_.length a.c, .string a.tx] 76)) (HO.out.alloc (.cells #[.int .i64 a.kind, .string a.sp, .string a.lo, .slice a.A a.at_.length a.c, .string a.tx] 76)) (by decide)
      have HAP := Lib.hid hap
      have hbox := ev_block wr _ wr.heap.size (.int .i64 a.kind) (.string a.sp) (.string a.lo) (.slice a.A a.at_.length a.c) (.string a.tx) 76 rfl (Below.refl _ _)
      have HBOX := Lib.hid hbox.1
      clear hbox hap
      refine (step_any a w.heap.size A2 q c2 (openN l j) _ (HO.out.alloc _) (by simp; omega) (by omega)).mono ?_
      rintro e w3 ⟨A3, c3, rfl, hown3, hsz3, hfr3, hnear3, hb3⟩
      rw [← HN.out] at hown3 hnear3 ⊢
      have hof3 := own_frame (HOF.out.alloc (.cells #[.int .i64 a.kind, .string a.sp, .string a.lo, .slice a.A a.at_.length a.c, .string a.tx] 76)) hfr3 HAP.out
      have hk3 : w3.cell? ⟨wr.heap.size, 0, none⟩ = some (.int .i64 a.kind) := (World.cell?_of_block (hfr3 wr.heap.size (by simp) (fun e => by have := (HO.out.lt wr.heap.size e.symm).2; omega))).trans HBOX.out
      have hbw3 := (hbw.alloc hws _).trans hb3
      obtain ⟨q3, hq3⟩ : ∃ q3, (openN l (j + 1)).length = q3 := ⟨_, rfl⟩
      have hq39 : q3 ≤ j + 1 := by rw [← hq3]; exact openN_len l (j + 1)
      rw [hq3] at hown3 hnear3 ⊢
      have HO3 := Lib.hid hown3
      have HQ3 := Lib.hid hq3
      have HOF3 := Lib.hid hof3
      clear hown3 hq3 hof3 hfr3 hnear3 x0 x1 x2 x3 x4
      by_cases hk1 : a.kind = 1
      · have t1 : (a.kind == 1) = true := by simpa using hk1
        have HSR := sameRowS_any (openN l (j + 1)) p A3 P q3 np c3 cp w3 HQ3.out HPL.out (by omega) (by omega) (own_sees HO3.out) (HP.out.below hbw3)
        cases hr : rowE sE (openN l (j + 1)) p with
        | true =>
          rw [hr] at HSR
          have KS := Lib.hid HSR
          have HF := Lib.hid (show findN l p (j + 1) = findN l p j ++ [(j : Int)] by rw [HFN.out, if_pos ⟨hk1, hr⟩])
          clear HSR hr hk1
          go_wp2_with fail
          refine KS.out.mono ?_
          rintro e w4 ⟨rfl, hb4⟩
          have hbw4 := hbw3.trans (hb4.mono hbw3.size)
          have hws4 := hbw4.size
          have HO4 := Lib.hid (own_below2 HO3.out hb4)
          have HOF4 := Lib.hid (own_below2 HOF3.out hb4)
          go_wp2_with (first | (at_builtin; refine wpList_append_own _ rfl _ _ 30 rfl w.heap.size 3 i0 (.int .i64 0) 1 8 Try.underlying30 hi0 hz0 hz1 hz2 rfl (by decide) _ qf (iV (findN l p j)) rfl (HOF4.out.alloc _) ⟨w4.heap.size, 0, none⟩ 1 1 (iV [(j : Int)]) rfl rfl (one_new_at w4 (.int .i64 j) _ _ rfl) (iV_one _) (by unfold maxLen; omega) (by omega) (by simp; omega) ?_; intro v' w5 hown5 hgrow5 _; obtain ⟨B5, d5, rfl⟩ := own_form2 hown5; have HOF5 := Lib.hid hown5; have HG5 := Lib.hid hgrow5; clear hown5 hgrow5))
          have hap4 := own_apart (HO4.out.alloc (.cells #[.int .i64 (j : Int)] 3)) (HOF4.out.alloc (.cells #[.int .i64 (j : Int)] 3)) (by decide)
          have HO5 := Lib.hid (own_frame (HO4.out.alloc (.cells #[.int .i64 (j : Int)] 3)) HG5.out.block hap4)
          have HB5 := Lib.hid ((hbw4.alloc hws4 (.cells #[.int .i64 (j : Int)] 3)).grown HG5.out (by simp; omega) (fun g hg => (HOF4.out.lt g hg).1))
          clear hap4
          go_roundw
          case rel => exact ⟨j + 1, q3, qf + 1, A3, B5, c3, d5, by omega, by go_num, rfl, HQ3.out, HO5.out, rfl, by rw [HF.out, List.length_append, HQF.out]; rfl, by rw [HF.out, iV_append]; exact HOF5.out, HB5.out⟩
          case measure => simp [intOf]; omega
        | false =>
          rw [hr] at HSR
          have KS := Lib.hid HSR
          have HF := Lib.hid (show findN l p (j + 1) = findN l p j by rw [HFN.out, if_neg (by rw [hr]; simp), List.append_nil])
          clear HSR hr hk1
          go_wp2_with fail
          refine KS.out.mono ?_
          rintro e w4 ⟨rfl, hb4⟩
          have hbw4 := hbw3.trans (hb4.mono hbw3.size)
          have HO4 := Lib.hid (own_below2 HO3.out hb4)
          have HOF4 := Lib.hid (own_below2 HOF3.out hb4)
          go_wp2_with fail
          go_roundw
          case rel => exact ⟨j + 1, q3, qf, A3, B2, c3, d2, by omega, by go_num, rfl, HQ3.out, HO4.out, rfl, by rw [HF.out]; exact HQF.out, by rw [HF.out]; exact HOF4.out, hbw4⟩
          case measure => simp [intOf]; omega
      · have t1 : (a.kind == 1) = false := by simpa using hk1
        have HF := Lib.hid (show findN l p (j + 1) = findN l p j by rw [HFN.out, if_neg (by simp [hk1]), List.append_nil])
        clear hk1
        go_wp2_with fail
        go_roundw
        case rel => exact ⟨j + 1, q3, qf, A3, B2, c3, d2, by omega, by go_num, rfl, HQ3.out, HO3.out, rfl, by rw [HF.out]; exact HQF.out, by rw [HF.out]; exact HOF3.out, hbw3⟩
        case measure => simp [intOf]; omega
    · obtain rfl : j = n := by omega
      have hcp := own_cap2 HOF.out
      go_wp2_with fail
      go_ret
      have e := HQF.out
      subst e
      exact ⟨B2, d2, rfl, own_sees HOF.out, hcp.1, hcp.2, hbw⟩
end Go.Proofs.Ytoiplpmjocemfaa
