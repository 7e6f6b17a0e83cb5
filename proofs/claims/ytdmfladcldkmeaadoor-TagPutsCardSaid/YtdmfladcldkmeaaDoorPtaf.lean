/- TagPuts: the ways on which nothing can be written. TagPuts: the way on which a tag is written. The walk of TagPuts. Rows of attributes, and structures of texts, that came in. -/
import Derived.Deep.Slices
import Derived.ChangeSame
import Derived.Lib.SmallJoins
import Derived.Test.YtdmfladcldkmeaaDoorPtab
import Derived.Test.YtdmfladcldkmeaaDoorPtae
namespace Go.Proofs.YtdmfladcldkmeaaDoor
open Go.ChangeShapes Go.WideShapes Go.ChangeAt Go.RowKit Go.Maps
set_option linter.unusedVariables false
set_option maxRecDepth 100000

set_option maxHeartbeats 4000000 in
theorem tp_great (s : List UInt8) (ps : Prs) (e : Bool) (A : Option Addr) (n c : Nat) (w : World) (hn : ps.length = n) (hn9 : n ≤ 9223372036854775807) (hs : Sees w A (vQ ps)) (ht : TabC w) (hg : greatT s ps = true) :
    Calls Tryd.prog 3 #[.agg #[strV s, .slice A n c, .bool e]] w fun e1 w' => e1 = .returned (.bool true) ∧ Below w.heap.size w w' := by
  have B0 := (Below.refl w.heap.size w).alloc (Nat.le_refl _) (.cells #[strV s, .slice A n c, .bool e] 24)
  have K := great10_any s ps e A n c (w.alloc (.cells #[strV s, .slice A n c, .bool e] 24)) hn hn9 (hs.below B0)
  rw [hg] at K
  have K0 := Lib.hid K
  have HB := Lib.hid B0
  have HL := Lib.hid (fun (w' : World) (hb : Below w.heap.size w w') => live10_any w' (ht.below hb))
  clear hs ht K B0 hg hn
  go_enter Tryd.func3, Tryd.ntmps3
  go_wp2_with fail
  refine K0.out.mono ?_
  rintro e1 w1 ⟨rfl, hb1⟩
  have H1 := Lib.hid (HB.out.trans (hb1.mono HB.out.size))
  clear hb1
  go_wp2_with fail
  refine (HL.out _ H1.out).mono ?_
  rintro e1 w2 ⟨rfl, hb2⟩
  go_wp2_with fail
  go_ret
  exact ⟨rfl, H1.out.trans (hb2.mono H1.out.size)⟩
set_option maxHeartbeats 1000000 in
/-- The name alone keeps it from being written. -/
theorem tp_bad1 (s : List UInt8) (ps : Prs) (e : Bool) (A : Option Addr) (n c : Nat) (w : World) (hn : ps.length = n) (hnc : n ≤ c) (hs : Sees w A (vQ ps)) (ht : TabC w) (hg : greatT s ps = false) (hf1 : faultT s [] ≠ 0) (hf2 : faultT s ps ≠ 0) :
    Calls Tryd.prog 3 #[.agg #[strV s, .slice A n c, .bool e]] w fun e1 w' => e1 = .returned (.bool true) ∧ Below w.heap.size w w' := by
  have hgn := greatT_no hg
  have hpl : ∀ p ∈ ps, p.1.length ≤ 2000 ∧ p.2.length ≤ 2000 := fun p hp => by have := hgn.2.2 p hp; omega
  have B0 := (Below.refl w.heap.size w).alloc (Nat.le_refl _) (.cells #[strV s, .slice A n c, .bool e] 24)
  obtain ⟨WA, hWA⟩ : ∃ WA, w.alloc (.cells #[strV s, .slice A n c, .bool e] 24) = WA := ⟨_, rfl⟩
  have T0 := Lib.hid (show Tri WA w.heap.size (strV s) (.slice A n c) (.bool e) 24 from hWA ▸ Tri.new w (strV s) (.slice A n c) (.bool e) 24 _ rfl)
  have hz0 : WA.heap.size = w.heap.size + 1 := by rw [← hWA]; simp
  rw [hWA] at B0
  have KC := Lib.hid (fun (W' : World) (hb : Below (w.heap.size + 1) WA W') => T0.out.low hb (Nat.lt_succ_self _))
  have KG := Lib.hid (fun (W' : World) (hb : Below (w.heap.size + 1) WA W') => B0.trans (hb.mono (Nat.le_succ _)))
  have KZ := Lib.hid (fun (W' : World) (hb : Below (w.heap.size + 1) WA W') => show w.heap.size + 1 ≤ W'.heap.size by have := hb.size; omega)
  have up : ∀ {f : FuncId} {args : Array Value} {v : Value} (W' : World), Below (w.heap.size + 1) WA W' → Calls Tryd.prog f args W' (fun e1 w'' => e1 = .returned v ∧ Below W'.heap.size W' w'') → Calls Tryd.prog f args W' (fun e1 w'' => e1 = .returned v ∧ Below (w.heap.size + 1) WA w'') :=
    fun W' hb h => h.mono fun e1 w'' h2 => ⟨h2.1, hb.trans (h2.2.mono (KZ.out W' hb))⟩
  have K0 := Lib.hid (fun (W' : World) (hb : Below (w.heap.size + 1) WA W') => up W' hb (hg ▸ great10_any s ps e A n c W' hn (by omega) (hs.below (KG.out W' hb))))
  have hp2 := peT_two s
  have hp1 := peT_bad hf1
  obtain ⟨f1, hf1e⟩ : ∃ f1, faultT s [] = f1 := ⟨_, rfl⟩
  obtain ⟨f2, hf2e⟩ : ∃ f2, faultT s ps = f2 := ⟨_, rfl⟩
  rw [hf1e] at hf1 hp2
  rw [hf2e] at hf2
  have K1 := Lib.hid (fun (W' : World) (hb : Below (w.heap.size + 1) WA W') => up W' hb (tput_no s ps e A n c W' f2 hf2 (fun w' hb' => by
    have h := fault_any s ps e A n c w' hn (by omega) (by omega) hpl ((hs.below (KG.out W' hb)).below hb') ((ht.below (KG.out W' hb)).below hb')
    rw [hf2e] at h
    exact h)))
  have K2 := Lib.hid (fun (W' : World) (hb : Below (w.heap.size + 1) WA W') => up W' hb (show Calls Tryd.prog 18 #[strV s] W' (fun e1 w'' => e1 = .returned (.tuple #[.string ⟨#[]⟩, .int .i64 f1]) ∧ Below W'.heap.size W' w'') from by
    have h := putEnd_any s W' (by omega) (ht.below (KG.out W' hb)).toN
    rw [hp1, hp2] at h
    exact h))
  have K3 := Lib.hid (fun (W' : World) (hb : Below (w.heap.size + 1) WA W') => up W' hb (show Calls Tryd.prog 19 #[.agg #[strV s, .slice none 0 0, .bool false]] W' (fun e1 w'' => e1 = .returned (.int .i64 f1) ∧ Below W'.heap.size W' w'') from by
    have h := rcheck10_any s [] false none 0 0 W' rfl (Nat.le_refl _) (by omega) (by omega) (fun p hp => absurd hp (by simp)) (fun h0 => absurd rfl h0) (ht.below (KG.out W' hb)).toN
    rw [hf1e] at h
    exact h))
  have K4 := Lib.hid (fun (W' : World) (hb : Below (w.heap.size + 1) WA W') => up W' hb (show Calls Tryd.prog 19 #[.agg #[strV s, .slice A n c, .bool e]] W' (fun e1 w'' => e1 = .returned (.int .i64 f2) ∧ Below W'.heap.size W' w'') from by
    have h := rcheck10_any s ps e A n c W' hn hnc (by omega) (by omega) hpl (hs.below (KG.out W' hb)) (ht.below (KG.out W' hb)).toN
    rw [hf2e] at h
    exact h))
  have K5 := Lib.hid (fun (W' : World) (hb : Below (w.heap.size + 1) WA W') => up W' hb (live10_any W' (ht.below (KG.out W' hb))))
  have HWA := Lib.hid hWA
  have hg0 : Below (w.heap.size + 1) WA WA := Below.refl _ _
  obtain ⟨t0, t1, t2⟩ := T0.out.at
  have b1 : (f1 == 0) = false := by simpa using hf1
  have b2 : (f1 != 0) = true := by simpa using hf1
  have b3 : (f2 != 0) = true := by simpa using hf2
  clear hs ht hg hn hpl hgn up B0 hz0 hWA hp1 hp2 hf1e hf2e hf1 hf2 hnc
  go_enter Tryd.func3, Tryd.ntmps3
  go_wp2_with fail
  rw [HWA.out]
  refine (K0.out _ hg0).mono ?_
  rintro e1 w1 ⟨rfl, hg1⟩
  obtain ⟨q0, q1, q2⟩ := (KC.out _ hg1).at
  clear t0 t1 t2
  have HG1 := Lib.hid hg1
  clear hg1 hg0
  go_wp2_with fail
  refine (K1.out _ HG1.out).mono ?_
  rintro e1 w2 ⟨rfl, hg2⟩
  clear q0 q1 q2
  obtain ⟨q0, q1, q2⟩ := (KC.out _ hg2).at
  have HG2 := Lib.hid hg2
  clear hg2
  go_wp2_with fail
  refine (K2.out _ HG2.out).mono ?_
  rintro e1 w3 ⟨rfl, hg3⟩
  clear q0 q1 q2
  obtain ⟨q0, q1, q2⟩ := (KC.out _ hg3).at
  have HG3 := Lib.hid hg3
  clear hg3
  go_wp2_with fail
  refine (K3.out _ HG3.out).mono ?_
  rintro e1 w4 ⟨rfl, hg4⟩
  clear q0 q1 q2
  obtain ⟨q0, q1, q2⟩ := (KC.out _ hg4).at
  have HG4 := Lib.hid hg4
  clear hg4
  go_wp2_with fail
  refine (K4.out _ HG4.out).mono ?_
  rintro e1 w5 ⟨rfl, hg5⟩
  have HG5 := Lib.hid hg5
  clear hg5 q0 q1 q2
  go_wp2_with fail
  refine (K5.out _ HG5.out).mono ?_
  rintro e1 w6 ⟨rfl, hg6⟩
  go_wp2_with fail
  go_ret
  exact ⟨rfl, KG.out _ hg6⟩
set_option maxHeartbeats 1000000 in
/-- Its attributes keep it from being written. -/
theorem tp_bad2 (s : List UInt8) (ps : Prs) (e : Bool) (A : Option Addr) (n c : Nat) (w : World) (hn : ps.length = n) (hnc : n ≤ c) (hs : Sees w A (vQ ps)) (ht : TabC w) (hg : greatT s ps = false) (hf1 : faultT s [] = 0) (hf2 : faultT s ps ≠ 0) :
    Calls Tryd.prog 3 #[.agg #[strV s, .slice A n c, .bool e]] w fun e1 w' => e1 = .returned (.bool true) ∧ Below w.heap.size w w' := by
  have hgn := greatT_no hg
  have hpl : ∀ p ∈ ps, p.1.length ≤ 2000 ∧ p.2.length ≤ 2000 := fun p hp => by have := hgn.2.2 p hp; omega
  have B0 := (Below.refl w.heap.size w).alloc (Nat.le_refl _) (.cells #[strV s, .slice A n c, .bool e] 24)
  obtain ⟨WA, hWA⟩ : ∃ WA, w.alloc (.cells #[strV s, .slice A n c, .bool e] 24) = WA := ⟨_, rfl⟩
  have T0 := Lib.hid (show Tri WA w.heap.size (strV s) (.slice A n c) (.bool e) 24 from hWA ▸ Tri.new w (strV s) (.slice A n c) (.bool e) 24 _ rfl)
  have hz0 : WA.heap.size = w.heap.size + 1 := by rw [← hWA]; simp
  rw [hWA] at B0
  have KC := Lib.hid (fun (W' : World) (hb : Below (w.heap.size + 1) WA W') => T0.out.low hb (Nat.lt_succ_self _))
  have KG := Lib.hid (fun (W' : World) (hb : Below (w.heap.size + 1) WA W') => B0.trans (hb.mono (Nat.le_succ _)))
  have KZ := Lib.hid (fun (W' : World) (hb : Below (w.heap.size + 1) WA W') => show w.heap.size + 1 ≤ W'.heap.size by have := hb.size; omega)
  have up : ∀ {f : FuncId} {args : Array Value} {v : Value} (W' : World), Below (w.heap.size + 1) WA W' → Calls Tryd.prog f args W' (fun e1 w'' => e1 = .returned v ∧ Below W'.heap.size W' w'') → Calls Tryd.prog f args W' (fun e1 w'' => e1 = .returned v ∧ Below (w.heap.size + 1) WA w'') :=
    fun W' hb h => h.mono fun e1 w'' h2 => ⟨h2.1, hb.trans (h2.2.mono (KZ.out W' hb))⟩
  have K0 := Lib.hid (fun (W' : World) (hb : Below (w.heap.size + 1) WA W') => up W' hb (hg ▸ great10_any s ps e A n c W' hn (by omega) (hs.below (KG.out W' hb))))
  have hp2 := peT_two s
  have hp1 := (peT_ok hf1).1
  obtain ⟨X, hX⟩ : ∃ X, endB s = X := ⟨_, rfl⟩
  have hj := end_join s
  rw [hX] at hp1 hj
  have z0 := str_size s
  have hf1e := hf1
  obtain ⟨f2, hf2e⟩ : ∃ f2, faultT s ps = f2 := ⟨_, rfl⟩
  rw [hf1e] at hp2
  rw [hf2e] at hf2
  have K1 := Lib.hid (fun (W' : World) (hb : Below (w.heap.size + 1) WA W') => up W' hb (tput_no s ps e A n c W' f2 hf2 (fun w' hb' => by
    have h := fault_any s ps e A n c w' hn (by omega) (by omega) hpl ((hs.below (KG.out W' hb)).below hb') ((ht.below (KG.out W' hb)).below hb')
    rw [hf2e] at h
    exact h)))
  have K2 := Lib.hid (fun (W' : World) (hb : Below (w.heap.size + 1) WA W') => up W' hb (show Calls Tryd.prog 18 #[strV s] W' (fun e1 w'' => e1 = .returned (.tuple #[strV X, .int .i64 0]) ∧ Below W'.heap.size W' w'') from by
    have h := putEnd_any s W' (by omega) (ht.below (KG.out W' hb)).toN
    rw [hp1, hp2] at h
    exact h))
  have K3 := Lib.hid (fun (W' : World) (hb : Below (w.heap.size + 1) WA W') => up W' hb (show Calls Tryd.prog 19 #[.agg #[strV s, .slice none 0 0, .bool false]] W' (fun e1 w'' => e1 = .returned (.int .i64 0) ∧ Below W'.heap.size W' w'') from by
    have h := rcheck10_any s [] false none 0 0 W' rfl (Nat.le_refl _) (by omega) (by omega) (fun p hp => absurd hp (by simp)) (fun h0 => absurd rfl h0) (ht.below (KG.out W' hb)).toN
    rw [hf1e] at h
    exact h))
  have K4 := Lib.hid (fun (W' : World) (hb : Below (w.heap.size + 1) WA W') => up W' hb (show Calls Tryd.prog 19 #[.agg #[strV s, .slice A n c, .bool e]] W' (fun e1 w'' => e1 = .returned (.int .i64 f2) ∧ Below W'.heap.size W' w'') from by
    have h := rcheck10_any s ps e A n c W' hn hnc (by omega) (by omega) hpl (hs.below (KG.out W' hb)) (ht.below (KG.out W' hb)).toN
    rw [hf2e] at h
    exact h))
  have K5 := Lib.hid (fun (W' : World) (hb : Below (w.heap.size + 1) WA W') => up W' hb (live10_any W' (ht.below (KG.out W' hb))))
  have HWA := Lib.hid hWA
  have hg0 : Below (w.heap.size + 1) WA WA := Below.refl _ _
  obtain ⟨t0, t1, t2⟩ := T0.out.at
  have b3 : (f2 != 0) = true := by simpa using hf2
  have hs9 := hgn.1
  clear hs ht hg hn hpl hgn up B0 hz0 hWA hp1 hp2 hf1e hf2e hf1 hf2 hnc hX
  unfold strV at t0
  go_enter Tryd.func3, Tryd.ntmps3
  go_wp2_with fail
  rw [HWA.out]
  refine (K0.out _ hg0).mono ?_
  rintro e1 w1 ⟨rfl, hg1⟩
  obtain ⟨q0, q1, q2⟩ := (KC.out _ hg1).at
  clear t0 t1 t2
  have HG1 := Lib.hid hg1
  clear hg1 hg0
  go_wp2_with fail
  refine (K1.out _ HG1.out).mono ?_
  rintro e1 w2 ⟨rfl, hg2⟩
  clear q0 q1 q2
  obtain ⟨q0, q1, q2⟩ := (KC.out _ hg2).at
  have HG2 := Lib.hid hg2
  clear hg2
  go_wp2_with fail
  refine (K2.out _ HG2.out).mono ?_
  rintro e1 w3 ⟨rfl, hg3⟩
  clear q0 q1 q2
  obtain ⟨q0, q1, q2⟩ := (KC.out _ hg3).at
  have HG3 := Lib.hid hg3
  clear hg3
  go_wp2_with fail
  refine (K3.out _ HG3.out).mono ?_
  rintro e1 w4 ⟨rfl, hg4⟩
  clear q0 q1 q2
  obtain ⟨q0, q1, q2⟩ := (KC.out _ hg4).at
  unfold strV at q0
  have HG4 := Lib.hid hg4
  clear hg4
  go_wp2_with fail
  refine (K4.out _ HG4.out).mono ?_
  rintro e1 w5 ⟨rfl, hg5⟩
  have HG5 := Lib.hid hg5
  clear hg5 q0 q1 q2
  go_wp2_with fail
  refine (K5.out _ HG5.out).mono ?_
  rintro e1 w6 ⟨rfl, hg6⟩
  go_wp2_with fail
  go_ret
  exact ⟨rfl, KG.out _ hg6⟩
end Go.Proofs.YtdmfladcldkmeaaDoor
namespace Go.Proofs.YtdmfladcldkmeaaDoor
open Go.ChangeShapes Go.WideShapes Go.ChangeAt Go.RowKit Go.Maps
set_option linter.unusedVariables false
set_option maxRecDepth 100000

set_option maxHeartbeats 1000000 in
/-- It can be written, and is read as itself. -/
theorem tp_ok (s : List UInt8) (ps : Prs) (e : Bool) (A : Option Addr) (n c : Nat) (w : World) (hn : ps.length = n) (hnc : n ≤ c) (hs : Sees w A (vQ ps)) (ht : TabC w) (hg : greatT s ps = false) (hf2 : faultT s ps = 0) :
    Calls Tryd.prog 3 #[.agg #[strV s, .slice A n c, .bool e]] w fun e1 w' => e1 = .returned (.bool true) ∧ Below w.heap.size w w' := by
  have hok := fault_ok hf2
  have hf1 : faultT s [] = 0 := by rw [fault_nil, if_neg (by rw [hok.1.1]; simp), if_neg (by have := hok.1.2; omega)]
  have hot := open_tag s ps e hok
  have hcl := close_end s hok.1
  have hgn := greatT_no hg
  have hpl : ∀ p ∈ ps, p.1.length ≤ 2000 ∧ p.2.length ≤ 2000 := fun p hp => by have := hgn.2.2 p hp; omega
  have B0 := (Below.refl w.heap.size w).alloc (Nat.le_refl _) (.cells #[strV s, .slice A n c, .bool e] 24)
  obtain ⟨WA, hWA⟩ : ∃ WA, w.alloc (.cells #[strV s, .slice A n c, .bool e] 24) = WA := ⟨_, rfl⟩
  have T0 := Lib.hid (show Tri WA w.heap.size (strV s) (.slice A n c) (.bool e) 24 from hWA ▸ Tri.new w (strV s) (.slice A n c) (.bool e) 24 _ rfl)
  have hz0 : WA.heap.size = w.heap.size + 1 := by rw [← hWA]; simp
  rw [hWA] at B0
  have KC := Lib.hid (fun (W' : World) (hb : Below (w.heap.size + 1) WA W') => T0.out.low hb (Nat.lt_succ_self _))
  have KG := Lib.hid (fun (W' : World) (hb : Below (w.heap.size + 1) WA W') => B0.trans (hb.mono (Nat.le_succ _)))
  have KZ := Lib.hid (fun (W' : World) (hb : Below (w.heap.size + 1) WA W') => show w.heap.size + 1 ≤ W'.heap.size by have := hb.size; omega)
  have up : ∀ {f : FuncId} {args : Array Value} {v : Value} (W' : World), Below (w.heap.size + 1) WA W' → Calls Tryd.prog f args W' (fun e1 w'' => e1 = .returned v ∧ Below W'.heap.size W' w'') → Calls Tryd.prog f args W' (fun e1 w'' => e1 = .returned v ∧ Below (w.heap.size + 1) WA w'') :=
    fun W' hb h => h.mono fun e1 w'' h2 => ⟨h2.1, hb.trans (h2.2.mono (KZ.out W' hb))⟩
  have K0 := Lib.hid (fun (W' : World) (hb : Below (w.heap.size + 1) WA W') => up W' hb (hg ▸ great10_any s ps e A n c W' hn (by omega) (hs.below (KG.out W' hb))))
  have hp2 := peT_two s
  have hp1 := (peT_ok hf1).1
  obtain ⟨X, hX⟩ : ∃ X, endB s = X := ⟨_, rfl⟩
  have hXl : X.length ≤ 5000 := by rw [← hX]; unfold endB; simp; omega
  rw [hX] at hcl
  obtain ⟨T, hT⟩ : ∃ T, tagB s ps e = T := ⟨_, rfl⟩
  have hTl : T.length ≤ 1000000 := by
    have h1 := prsB_bound ps hpl
    have h2 : ps.length * 4004 ≤ 20 * 4004 := Nat.mul_le_mul_right _ hgn.2.1
    rw [← hT]; unfold tagB
    rw [List.length_append, List.length_cons, List.length_append]
    cases e <;> simp [tailB] <;> omega
  rw [hT] at hot
  have hj := end_join s
  rw [hX] at hp1 hj
  have z0 := str_size s
  have hf1e := hf1
  have hf2e := hf2
  rw [hf1e] at hp2
  have K1 := Lib.hid (fun (W' : World) (hb : Below (w.heap.size + 1) WA W') => up W' hb (show Calls Tryd.prog 17 #[.agg #[strV s, .slice A n c, .bool e]] W' (fun e1 w'' => e1 = .returned (.tuple #[.string ⟨T.toArray⟩, .int .i64 0]) ∧ Below W'.heap.size W' w'') from by
    have h := tput_ok s ps e A n c W' hn (by omega) (by omega) hpl (hs.below (KG.out W' hb)) (fun w' hb' => by
      have h := fault_any s ps e A n c w' hn (by omega) (by omega) hpl ((hs.below (KG.out W' hb)).below hb') ((ht.below (KG.out W' hb)).below hb')
      rw [hf2e] at h
      exact h)
    rw [hT] at h
    exact h))
  have KP := Lib.hid (fun (W' : World) (hb : Below (w.heap.size + 1) WA W') => up W' hb (show Calls Tryd.prog 20 #[.agg #[strV s, .slice A n c, .bool e]] W' (fun e1 w'' => e1 = .returned (.string ⟨T.toArray⟩) ∧ Below W'.heap.size W' w'') from by
    have h := rput10_any s ps e A n c W' hn (by omega) (by omega) hpl (hs.below (KG.out W' hb))
    rw [hT] at h
    exact h))
  have KO := Lib.hid (fun (W' : World) (B cap : Nat) (hb : Below (w.heap.size + 1) WA W') (h1 : T.length ≤ cap) (h2 : cap ≤ 9223372036854775807) (hv : Sees W' (some ⟨B, 0, none⟩) (vB T)) => show Calls Tryd.prog 21 #[.slice (some ⟨B, 0, none⟩) T.length cap, .int .i64 0] W' (OpenPost (s, ps, e, (T.length : Int), 0) W') from by
    have h := open_any T (some ⟨B, 0, none⟩) T.length cap 0 W' rfl h1 h2 hTl ⟨by omega, by omega⟩ hv (ht.below (KG.out W' hb))
    rw [hot] at h
    exact h)
  have KL := Lib.hid (fun (W' : World) (B cap : Nat) (hb : Below (w.heap.size + 1) WA W') (h1 : X.length ≤ cap) (h2 : cap ≤ 9223372036854775807) (hv : Sees W' (some ⟨B, 0, none⟩) (vB X)) => (show Calls Tryd.prog 22 #[.slice (some ⟨B, 0, none⟩) X.length cap, .int .i64 0] W' (fun e1 w'' => e1 = .returned (.tuple #[.string ⟨s.toArray⟩, .int .i64 (X.length : Int), .int .i64 0]) ∧ Below W'.heap.size W' w'') from by
    have h := close_any X (some ⟨B, 0, none⟩) X.length cap 0 W' rfl h1 h2 (by omega) ⟨by omega, by omega⟩ hv (ht.below (KG.out W' hb)).toN
    rw [hcl] at h
    exact h))
  have KSM := Lib.hid (fun (W' : World) (A7 : Option Addr) (c7 : Nat) (hb : Below (w.heap.size + 1) WA W') (hv : Sees W' A7 (vQ ps)) => (rsameS_any ps A7 A n c7 c W' hn (by omega) hv (hs.below (KG.out W' hb))))
  have K2 := Lib.hid (fun (W' : World) (hb : Below (w.heap.size + 1) WA W') => up W' hb (show Calls Tryd.prog 18 #[strV s] W' (fun e1 w'' => e1 = .returned (.tuple #[.string ⟨X.toArray⟩, .int .i64 0]) ∧ Below W'.heap.size W' w'') from by
    have h := putEnd_any s W' (by omega) (ht.below (KG.out W' hb)).toN
    rw [hp1, hp2] at h
    exact h))
  have K3 := Lib.hid (fun (W' : World) (hb : Below (w.heap.size + 1) WA W') => up W' hb (show Calls Tryd.prog 19 #[.agg #[strV s, .slice none 0 0, .bool false]] W' (fun e1 w'' => e1 = .returned (.int .i64 0) ∧ Below W'.heap.size W' w'') from by
    have h := rcheck10_any s [] false none 0 0 W' rfl (Nat.le_refl _) (by omega) (by omega) (fun p hp => absurd hp (by simp)) (fun h0 => absurd rfl h0) (ht.below (KG.out W' hb)).toN
    rw [hf1e] at h
    exact h))
  have K4 := Lib.hid (fun (W' : World) (hb : Below (w.heap.size + 1) WA W') => up W' hb (show Calls Tryd.prog 19 #[.agg #[strV s, .slice A n c, .bool e]] W' (fun e1 w'' => e1 = .returned (.int .i64 0) ∧ Below W'.heap.size W' w'') from by
    have h := rcheck10_any s ps e A n c W' hn hnc (by omega) (by omega) hpl (hs.below (KG.out W' hb)) (ht.below (KG.out W' hb)).toN
    rw [hf2e] at h
    exact h))
  have K5 := Lib.hid (fun (W' : World) (hb : Below (w.heap.size + 1) WA W') => up W' hb (live10_any W' (ht.below (KG.out W' hb))))
  have HWA := Lib.hid hWA
  have hg0 : Below (w.heap.size + 1) WA WA := Below.refl _ _
  obtain ⟨t0, t1, t2⟩ := T0.out.at
  have HN := Lib.hid hn
  have HTL := Lib.hid hTl
  have HXL := Lib.hid hXl
  have zT := str_size T
  have zX := str_size X
  have hs9 := hgn.1
  clear hs ht hg hn hpl hgn up B0 hz0 hWA hp1 hp2 hf1e hf2e hf1 hf2 hnc hX hT hTl hXl hot hcl hok
  unfold strV at t0
  go_enter Tryd.func3, Tryd.ntmps3
  go_wp2_with fail
  rw [HWA.out]
  refine (K0.out _ hg0).mono ?_
  rintro e1 w1 ⟨rfl, hg1⟩
  obtain ⟨q0, q1, q2⟩ := (KC.out _ hg1).at
  clear t0 t1 t2
  have HG1 := Lib.hid hg1
  clear hg1 hg0
  go_wp2_with fail
  refine (K1.out _ HG1.out).mono ?_
  rintro e1 w2 ⟨rfl, hg2⟩
  clear q0 q1 q2
  obtain ⟨q0, q1, q2⟩ := (KC.out _ hg2).at
  have HG2 := Lib.hid hg2
  clear hg2
  go_wp2_with fail
  refine (K2.out _ HG2.out).mono ?_
  rintro e1 w3 ⟨rfl, hg3⟩
  clear q0 q1 q2
  obtain ⟨q0, q1, q2⟩ := (KC.out _ hg3).at
  have HG3 := Lib.hid hg3
  clear hg3
  go_wp2_with fail
  refine (K3.out _ HG3.out).mono ?_
  rintro e1 w4 ⟨rfl, hg4⟩
  clear q0 q1 q2
  obtain ⟨q0, q1, q2⟩ := (KC.out _ hg4).at
  unfold strV at q0
  have HG4 := Lib.hid hg4
  clear hg4
  go_wp2_with fail
  refine (K4.out _ HG4.out).mono ?_
  rintro e1 w5 ⟨rfl, hg5⟩
  clear q0 q1 q2
  obtain ⟨q0, q1, q2⟩ := (KC.out _ hg5).at
  have HG5 := Lib.hid hg5
  clear hg5
  go_wp2_with fail
  refine (KP.out _ HG5.out).mono ?_
  rintro e1 w6 ⟨rfl, hg6⟩
  clear q0 q1 q2
  obtain ⟨B, cap, W1, hrun, hc1, hc2, hb1, hBl, hBw, hs1⟩ := bytes_made T w6 HTL.out
  have hgW1 := hg6.trans (hb1.mono (KZ.out _ hg6))
  have KO1 := Lib.hid (KO.out W1 B cap hgW1 hc1 hc2 hs1)
  have HGW := Lib.hid hgW1
  unfold strV at hrun
  clear hc1 hc2 hb1 hBl hBw hs1 hgW1 hg6
  go_wp2_with fail
  refine KO1.out.mono ?_
  rintro e1 w7 ⟨v, rfl, o7, hb7⟩
  obtain ⟨A7, c7, rfl, hs7, _, _⟩ := own_sees o7
  simp only
  rw [HN.out]
  have hg7 := HGW.out.trans (hb7.mono (KZ.out _ HGW.out))
  have T8 := Tri.new w7 (strV s) (.slice A7 n c7) (.bool e) 30 _ rfl
  obtain ⟨B2, cap2, W9, hrun2, hc1, hc2, hb9, hBl, hBw, hs9⟩ := bytes_made X (w7.alloc (.cells #[strV s, .slice A7 n c7, .bool e] 30)) (by have := HXL.out; omega)
  have hg8 := hg7.alloc (KZ.out _ hg7) (.cells #[strV s, .slice A7 n c7, .bool e] 30)
  have hgW9 := hg8.trans (hb9.mono (KZ.out _ hg8))
  have HS9 := Lib.hid ((hs7.below ((Below.refl _ w7).alloc (Nat.le_refl _) (.cells #[strV s, .slice A7 n c7, .bool e] 30))).below hb9)
  have HT9 := Lib.hid (T8.below hb9)
  have KL1 := Lib.hid (KL.out W9 B2 cap2 hgW9 hc1 hc2 hs9)
  have HGW9 := Lib.hid hgW9
  rw [show strV X = .string ⟨X.toArray⟩ from rfl] at hrun2
  clear hrun hc1 hc2 hb9 hBl hBw hs9 hgW9 hg8 T8 o7 hs7 hg7 hb7
  go_wp2_with fail
  refine KL1.out.mono ?_
  rintro e1 w10 ⟨rfl, hb10⟩
  have hg10 := HGW9.out.trans (hb10.mono (KZ.out _ HGW9.out))
  have T10 := HT9.out.below hb10
  obtain ⟨x0, x1, x2⟩ := T10.at
  obtain ⟨q0, q1, q2⟩ := (KC.out _ hg10).at
  have KS1 := Lib.hid (KSM.out w10 A7 c7 hg10 (HS9.out.below hb10))
  have HT10 := Lib.hid T10
  have HG10 := Lib.hid hg10
  clear hrun2 T10 hb10 hg10
  unfold strV at x0 q0
  go_wp2_with fail
  refine KS1.out.mono ?_
  rintro e1 w11 ⟨rfl, hb11⟩
  have hg11 := HG10.out.trans (hb11.mono (KZ.out _ HG10.out))
  clear x0 x1 x2 q0 q1 q2
  obtain ⟨x0, x1, x2⟩ := (HT10.out.below hb11).at
  obtain ⟨q0, q1, q2⟩ := (KC.out _ hg11).at
  have HG11 := Lib.hid hg11
  clear hb11 hg11
  unfold strV at x0 q0
  go_wp2_with fail
  refine (K5.out _ HG11.out).mono ?_
  rintro e1 w12 ⟨rfl, hg12⟩
  go_wp2_with fail
  go_ret
  exact ⟨rfl, KG.out _ hg12⟩
end Go.Proofs.YtdmfladcldkmeaaDoor
namespace Go.Proofs.YtdmfladcldkmeaaDoor
open Go.ChangeShapes Go.WideShapes Go.ChangeAt Go.RowKit Go.Maps
set_option linter.unusedVariables false

theorem tagPuts_any (s : List UInt8) (ps : Prs) (e : Bool) (A : Option Addr) (n c : Nat) (w : World) (hn : ps.length = n) (hnc : n ≤ c) (hc9 : c ≤ 9223372036854775807) (hs : Sees w A (vQ ps)) (ht : TabC w) :
    Calls Tryd.prog 3 #[.agg #[strV s, .slice A n c, .bool e]] w fun e1 w' => e1 = .returned (.bool true) ∧ Below w.heap.size w w' := by
  cases hg : greatT s ps with
  | true => exact tp_great s ps e A n c w hn (by omega) hs ht hg
  | false =>
    by_cases hf2 : faultT s ps = 0
    · exact tp_ok s ps e A n c w hn hnc hs ht hg hf2
    · by_cases hf1 : faultT s [] = 0
      · exact tp_bad2 s ps e A n c w hn hnc hs ht hg hf1 hf2
      · exact tp_bad1 s ps e A n c w hn hnc hs ht hg hf1 hf2
end Go.Proofs.YtdmfladcldkmeaaDoor
namespace Go.Proofs.YtdmfladcldkmeaaDoor
open Go.ChangeShapes Go.WideShapes Go.ChangeAt Go.RowKit
set_option linter.unusedVariables false
set_option maxRecDepth 100000

theorem fl_get {α : Type} {C : α → List Value} {k : Nat} (hk : 0 < k) (hC : ∀ x, (C x).length = k) : ∀ (l : List α) (j : Nat) (u : Value), (l.flatMap C)[j]? = some u → ∃ (i r : Nat) (x : α), l[i]? = some x ∧ j = i * k + r ∧ r < k ∧ (C x)[r]? = some u
  | [], j, u, h => by simp at h
  | x :: l, j, u, h => by
    rw [List.flatMap_cons] at h
    by_cases hj : j < k
    · rw [List.getElem?_append_left (by rw [hC]; exact hj)] at h
      exact ⟨0, j, x, rfl, by omega, hj, h⟩
    · rw [List.getElem?_append_right (by rw [hC]; omega), hC] at h
      obtain ⟨i, r, y, h1, h2, h3, h4⟩ := fl_get hk hC l (j - k) u h
      exact ⟨i + 1, r, y, by simpa using h1, by rw [Nat.add_mul]; omega, h3, h4⟩
theorem se_rows {α : Type} [Inhabited α] {C : α → List Value} {k len : Nat} {w : World} {a : Addr} (hk : 0 < k) (hC : ∀ x, (C x).length = k) (h : ∀ i, i < len → ∃ x, ∀ j, j < k → w.cell? (a.add (i * k + j)) = (C x)[j]?) :
    ∃ l : List α, l.length = len ∧ Sees w (some a) (l.flatMap C) := by
  obtain ⟨f, hf⟩ := Go.Deep.choose_lt h
  have key : ∀ i x, ((List.range len).map f)[i]? = some x → i < len ∧ x = f i := by
    intro i x hx
    rw [List.getElem?_map] at hx
    by_cases hi : i < len
    · rw [List.getElem?_range hi] at hx
      exact ⟨hi, (Option.some.inj hx).symm⟩
    · rw [List.getElem?_eq_none (by simpa using hi)] at hx
      cases hx
  refine ⟨(List.range len).map f, by simp, fun _ => ⟨a, rfl, fun j u hu => ?_⟩⟩
  obtain ⟨i, r, x, h1, rfl, h3, h4⟩ := fl_get hk hC _ j u hu
  obtain ⟨hi, rfl⟩ := key i x h1
  rw [hf i hi r h3, h4]
/-- A pair's cells. -/
def qC (p : List UInt8 × List UInt8) : List Value := [strV p.1, strV p.2]
theorem vQ_flat : ∀ ps : Prs, vQ ps = ps.flatMap qC
  | [] => rfl
  | p :: ps => by rw [vQ, vQ_flat ps]; rfl
theorem str_eta (s : ByteArray) : Value.string s = strV s.data.toList := rfl
section Opn
variable {H : Type} {enc : TypeId × Value → H} {W : World} {base : Nat} {spare : Nat → Bool} {held : Bool}
theorem open_pair {fuel : Nat} {cs : List Value} {x : DataW H × List MemPlace} (h : DataW.trod enc Tryd.prog W base spare held fuel 41 cs = some x) : ∃ p : List UInt8 × List UInt8, cs = qC p := by
  obtain ⟨xs, n, _, _, hl, hxl, hf⟩ := DataW.trod_struct Tryd.underlying41 h
  rw [show Tryd.prog.cellsOf 41 = 2 by kernel_rfl] at hl
  match cs, hl with
  | [c0, c1], _ =>
    have h0 : DataW.trod enc Tryd.prog W base spare held n 9 (([c0, c1].drop 0).take (Tryd.prog.cellsOf 9)) = xs[0]? := hf 0 _ rfl
    have h1 : DataW.trod enc Tryd.prog W base spare held n 9 (([c0, c1].drop 1).take (Tryd.prog.cellsOf 9)) = xs[1]? := hf 1 _ rfl
    rw [show Tryd.prog.cellsOf 9 = 1 by kernel_rfl, List.getElem?_eq_getElem (by rw [hxl]; decide)] at h0 h1
    obtain ⟨s, e0, _⟩ := DataW.trod_string Tryd.underlying9 h0
    obtain ⟨t, e1, _⟩ := DataW.trod_string Tryd.underlying9 h1
    simp at e0 e1
    exact ⟨(s.data.toList, t.data.toList), by rw [e0, e1]; rfl⟩
theorem open_pairs {fuel : Nat} {cs : List Value} {x : DataW H × List MemPlace} (h : DataW.trod enc Tryd.prog W base spare held fuel 22 cs = some x) :
    ∃ (l : Prs) (A : Option Addr) (c : Nat), cs = [.slice A l.length c] ∧ l.length ≤ c ∧ c ≤ 9223372036854775807 ∧ Sees W A (vQ l) := by
  rcases Go.Deep.open_slice Tryd.underlying22 h with ⟨h1, _⟩ | ⟨a, len, cap, m, n, D, Pl, h1, _, hl, hm, hmm, _, hel⟩
  · exact ⟨[], none, 0, h1, Nat.le_refl _, by omega, sees_nil _ _⟩
  · have hlm : len ≤ m := by rw [hmm]; split <;> omega
    rw [show Tryd.prog.cellsOf 41 = 2 by kernel_rfl] at hel
    obtain ⟨l, h2, h3⟩ := se_rows (C := qC) (k := 2) (len := len) (w := W) (a := a) (by omega) (fun _ => rfl) (fun i hi => by
      obtain ⟨cs', hc, ht⟩ := hel i (by omega)
      obtain ⟨_, _, hcell⟩ := World.cells?_some hc
      obtain ⟨p, rfl⟩ := open_pair ht
      exact ⟨p, fun j hj => by rw [← hcell j hj, addr_add_add]⟩)
    exact ⟨l, some a, cap, by rw [h1, h2], by omega, by unfold maxLen at hm; omega, by rw [vQ_flat]; exact h3⟩
/-- An argument that is a row of attributes. -/
theorem opn_prs {v : Value} {d : DataW H} {p : List MemPlace} (h : DataW.Trod enc Tryd.prog W base spare held 22 v d p) (hv : Value.okWide Tryd.prog W .any base 22 v) :
    ∃ x : Prs × Option Addr × Nat, v = .slice x.2.1 x.1.length x.2.2 ∧ x.1.length ≤ x.2.2 ∧ x.2.2 ≤ 9223372036854775807 ∧ Sees W x.2.1 (vQ x.1) := by
  obtain ⟨a, len, cap, rfl⟩ := okWide_slice Tryd.underlying22 hv
  obtain ⟨fuel, hf⟩ := h
  obtain ⟨l, A, c, e, h1, h2, h3⟩ := open_pairs hf
  simp [Value.cells] at e
  obtain ⟨rfl, rfl, rfl⟩ := e
  exact ⟨(l, a, cap), rfl, h1, h2, h3⟩
theorem opn_ext {v : Value} {d : DataW H} {p : List MemPlace} (h : DataW.Trod enc Tryd.prog W base spare held 59 v d p) (hv : Value.okWide Tryd.prog W .any base 59 v) :
    ∃ x : List UInt8 × List UInt8, v = .agg #[strV x.1, strV x.2] ∧ True := by
  obtain ⟨v0, v1, y0, y1, n, rfl, _, _, h0, h1⟩ := Go.Joins.open_agg2 Tryd.underlying59 (by kernel_rfl) (by kernel_rfl) hv h
  obtain ⟨s, e0, _⟩ := DataW.trod_string Tryd.underlying9 h0
  obtain ⟨t, e1, _⟩ := DataW.trod_string Tryd.underlying9 h1
  simp at e0 e1
  exact ⟨(s.data.toList, t.data.toList), by rw [e0, e1], trivial⟩
theorem opn_tag {v : Value} {d : DataW H} {p : List MemPlace} (h : DataW.Trod enc Tryd.prog W base spare held 24 v d p) (hv : Value.okWide Tryd.prog W .any base 24 v) :
    ∃ x : List UInt8 × Prs × Option Addr × Nat × Bool, v = .agg #[strV x.1, .slice x.2.2.1 x.2.1.length x.2.2.2.1, .bool x.2.2.2.2] ∧ x.2.1.length ≤ x.2.2.2.1 ∧ x.2.2.2.1 ≤ 9223372036854775807 ∧ Sees W x.2.2.1 (vQ x.2.1) := by
  obtain ⟨v0, v1, v2, y0, y1, y2, n, rfl, _, _, h0, h1, h2⟩ := Go.Joins.open_agg3 Tryd.underlying24 (by kernel_rfl) (by kernel_rfl) hv h
  obtain ⟨s, e0, _⟩ := DataW.trod_string Tryd.underlying9 h0
  obtain ⟨l, A, c, e1, hlc, hc9, hs⟩ := open_pairs h1
  obtain ⟨b, e2, _⟩ := DataW.trod_bool Tryd.underlying4 h2
  simp at e0 e1 e2
  exact ⟨(s.data.toList, l, A, c, b), by rw [e0, e1, e2], hlc, hc9, hs⟩
theorem opn_dec {v : Value} {d : DataW H} {p : List MemPlace} (h : DataW.Trod enc Tryd.prog W base spare held 47 v d p) (hv : Value.okWide Tryd.prog W .any base 47 v) :
    ∃ x : Bool × List UInt8 × List UInt8 × List UInt8, v = .agg #[.bool x.1, strV x.2.1, strV x.2.2.1, strV x.2.2.2] ∧ True := by
  obtain ⟨v0, v1, v2, v3, y0, y1, y2, y3, n, rfl, _, _, h0, h1, h2, h3⟩ := Go.Joins.open_agg4 Tryd.underlying47 (by kernel_rfl) (by kernel_rfl) hv h
  obtain ⟨b, e0, _⟩ := DataW.trod_bool Tryd.underlying4 h0
  obtain ⟨s, e1, _⟩ := DataW.trod_string Tryd.underlying9 h1
  obtain ⟨t, e2, _⟩ := DataW.trod_string Tryd.underlying9 h2
  obtain ⟨u, e3, _⟩ := DataW.trod_string Tryd.underlying9 h3
  simp at e0 e1 e2 e3
  exact ⟨(b, s.data.toList, t.data.toList, u.data.toList), by rw [e0, e1, e2, e3], trivial⟩
end Opn
end Go.Proofs.YtdmfladcldkmeaaDoor
