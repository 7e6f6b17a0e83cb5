/- Texts between quotes: Value, Entity, by the program; Strict, by the document. -/
import Derived.Test.YtgbbccfoceifnaaDoorLitf
namespace Go.Proofs.YtgbbccfoceifnaaDoor
open Go.ChangeShapes Go.WideShapes Go.ChangeAt Go.RowKit
set_option linter.unusedVariables false
set_option maxRecDepth 100000

theorem enters_without : Enters 111 := fun _ _ => by kernel_rfl
theorem enters_refs : Enters 66 := fun _ _ => by kernel_rfl
/-- What a value that may not hold byte c is. -/
def strT (c : Nat) (l : List UInt8) (k : Int) : Trip := chkT [withoutE c, refsE] (quoT l k)
theorem strT_tup (c : Nat) (l : List UInt8) (k : Int) : ∃ s y e, trV (strT c l k) = .tuple #[.string s, .int .i64 y, .int .i64 e] := ⟨_, _, _, rfl⟩
/-- The contract of 'checked' where its checks are those of a value. -/
theorem checked_val (d : Nat) (l : List UInt8) (A : Option Addr) (n c : Nat) (k : Int) (w : World)
    (hn : l.length = n) (hnc : n ≤ c) (hm : c ≤ 9223372036854775807) (hk : I64 k) (hn9 : n ≤ 1000000) (hs : Sees w A (vB l)) (ht : TabC w) :
    Calls Tryd.prog 64 #[.slice A n c, .int .i64 k, .slice (some ⟨w.heap.size + 1, 0, none⟩) 2 2] ((w.alloc (.cells #[.int .u8 (d : Int)] 5)).alloc (.cells #[.func (.func 111) #[] #[.pointer (some ⟨w.heap.size, 0, none⟩)], .func (.func 66) #[] #[]] 84))
      fun e w' => e = .returned (trV (strT d l k)) ∧ Below w.heap.size w w' := by
  obtain ⟨W, hW⟩ : ∃ W, (w.alloc (.cells #[.int .u8 (d : Int)] 5)).alloc (.cells #[.func (.func 111) #[] #[.pointer (some ⟨w.heap.size, 0, none⟩)], .func (.func 66) #[] #[]] 84) = W := ⟨_, rfl⟩
  have hb : Below w.heap.size w W := hW ▸ (((Below.refl _ w).alloc (Nat.le_refl _) _).alloc (by simp) _)
  have hsz : W.heap.size = w.heap.size + 2 := by rw [← hW]; simp
  have hcell : W.cell? ⟨w.heap.size, 0, none⟩ = some (.int .u8 (d : Int)) := by
    rw [← hW]
    have h1 : ((w.alloc (.cells #[.int .u8 (d : Int)] 5)).alloc (.cells #[.func (.func 111) #[] #[.pointer (some ⟨w.heap.size, 0, none⟩)], .func (.func 66) #[] #[]] 84)).heap[w.heap.size]? = some (.cells #[.int .u8 (d : Int)] 5) := by
      rw [Lib.alloc_old _ _ _ (by simp), heap_alloc_new]
    unfold World.cell?
    rw [h1]
    rfl
  have hS : Sees W (some ⟨w.heap.size + 1, 0, none⟩) (([(111, #[.pointer (some ⟨w.heap.size, 0, none⟩)], withoutE d), (66, #[], refsE)] : List Chk).map chkV) := by
    rw [← hW]
    have h := sees_lit (w.alloc (.cells #[.int .u8 (d : Int)] 5)) [.func (.func 111) #[] #[.pointer (some ⟨w.heap.size, 0, none⟩)], .func (.func 66) #[] #[]] 84 (0, 0)
    rw [show (w.alloc (.cells #[.int .u8 (d : Int)] 5)).heap.size = w.heap.size + 1 by simp] at h
    exact h
  rw [hW]
  have h := checked_any [(111, #[.pointer (some ⟨w.heap.size, 0, none⟩)], withoutE d), (66, #[], refsE)] l A (some ⟨w.heap.size + 1, 0, none⟩) n c 2 2 k W hn hnc hm hk hn9 (hs.below hb) rfl (by omega) hS (fun x hx => by
    have hx' : x = (111, #[.pointer (some ⟨w.heap.size, 0, none⟩)], withoutE d) ∨ x = (66, #[], refsE) := by simpa using hx
    rcases hx' with rfl | rfl
    · exact ⟨enters_without, fun s w' hs' hb' => without1_any d s w.heap.size w' (by rw [hb'.cell (p := ⟨w.heap.size, 0, none⟩) (by show w.heap.size < _; omega)]; exact hcell)⟩
    · exact ⟨enters_refs, fun s w' hs' hb' => rightRefs_any s w' hs' ((ht.below hb).below hb')⟩)
  exact h.mono fun e w' ⟨he, hb'⟩ => ⟨he, hb.trans (hb'.mono hb.size)⟩

set_option maxHeartbeats 1000000 in
theorem litValue_any (l : List UInt8) (A : Option Addr) (n c : Nat) (k : Int) (w : World)
    (hn : l.length = n) (hnc : n ≤ c) (hm : c ≤ 9223372036854775807) (hk : I64 k) (hn9 : n ≤ 1000000) (hs : Sees w A (vB l)) (ht : TabC w) :
    Calls Tryd.prog 18 #[.slice A n c, .int .i64 k] w fun e w' => e = .returned (trV (strT 60 l k)) ∧ Below w.heap.size w w' := by
  have H := checked_val 60 l A n c k w hn hnc hm hk hn9 hs ht
  have HW := Lib.hid (without_any 60 w)
  obtain ⟨s, y, e0, hv⟩ := strT_tup 60 l k
  rw [hv] at H ⊢
  have HH := Lib.hid H
  clear H hv hs ht hn
  go_enter Tryd.func18, Tryd.ntmps18
  go_wp2_with fail
  refine HW.out.mono ?_
  rintro e w1 ⟨rfl, rfl⟩
  go_wp2_with fail
  refine HH.out.mono ?_
  rintro e w1 ⟨rfl, hb⟩
  go_wp2_with fail
  go_ret3
  exact ⟨rfl, hb⟩
set_option maxHeartbeats 1000000 in
theorem litEntity_any (l : List UInt8) (A : Option Addr) (n c : Nat) (k : Int) (w : World)
    (hn : l.length = n) (hnc : n ≤ c) (hm : c ≤ 9223372036854775807) (hk : I64 k) (hn9 : n ≤ 1000000) (hs : Sees w A (vB l)) (ht : TabC w) :
    Calls Tryd.prog 20 #[.slice A n c, .int .i64 k] w fun e w' => e = .returned (trV (strT 37 l k)) ∧ Below w.heap.size w w' := by
  have H := checked_val 37 l A n c k w hn hnc hm hk hn9 hs ht
  have HW := Lib.hid (without_any 37 w)
  obtain ⟨s, y, e0, hv⟩ := strT_tup 37 l k
  rw [hv] at H ⊢
  have HH := Lib.hid H
  clear H hv hs ht hn
  go_enter Tryd.func20, Tryd.ntmps20
  go_wp2_with fail
  refine HW.out.mono ?_
  rintro e w1 ⟨rfl, rfl⟩
  go_wp2_with fail
  refine HH.out.mono ?_
  rintro e w1 ⟨rfl, hb⟩
  go_wp2_with fail
  go_ret3
  exact ⟨rfl, hb⟩

set_option maxHeartbeats 2000000 in
theorem rstrict_any (d : Nat) (hd : d < 256) (l : List UInt8) (A : Option Addr) (n c : Nat) (k : Int) (w : World)
    (hn : l.length = n) (hnc : n ≤ c) (hm : c ≤ 9223372036854775807) (hk : I64 k) (hn9 : n ≤ 1000000) (hs : Sees w A (vB l)) (ht : TabN w) :
    Calls Tryd.prog 19 #[.slice A n c, .int .i64 k, .int .u8 (d : Int)] w fun e w' => e = .returned (trV (strT d l k)) ∧ Below w.heap.size w w' := by
  have HQ := rquoted_any l A n c k w hn hnc hm hk hn9 hs
  have hqe := quoT_err l k
  have hql := quoT_len l k
  unfold strT chkT
  obtain ⟨s, y, e0, hq⟩ : ∃ s y e0, quoT l k = (s, y, e0) := ⟨_, _, _, rfl⟩
  rw [hq] at HQ hqe hql ⊢
  simp only at hqe hql ⊢
  by_cases h0 : e0 = 0
  · subst h0
    rw [if_neg (by simp)]
    unfold trV at HQ
    have H := Lib.hid HQ
    have hsl : s.length ≤ 1000000 := by omega
    have H2 := fun w' => rhas_any s d w' hsl hd
    have H3 := Lib.hid (fun (w' : World) (hb : Below w.heap.size w w') => rrefs_any s w' hsl (ht.below hb))
    unfold refsV at H3
    obtain ⟨x, z, hxz⟩ : ∃ x z, refsN s s.length 0 = (x, z) := ⟨_, _, rfl⟩
    have hr : refsE s = z := by unfold refsE; rw [hxz]
    rw [hxz] at H3
    by_cases hi : 0 ≤ Lib.indexByte s (UInt8.ofNat d)
    · have hc : chk [withoutE d, refsE] s = 7 := by
        have hw : withoutE d s = 7 := by unfold withoutE; rw [if_pos hi]
        show (if withoutE d s ≠ 0 then withoutE d s else _) = 7
        rw [hw, if_pos (by omega)]
      rw [hc, decide_eq_true hi] at *
      rw [if_pos (by omega), trV_no]
      have K2 := Lib.hid H2
      clear HQ H2 hqe hql hq hs ht hn hxz hi hr hc
      go_enter Tryd.func19, Tryd.ntmps19
      go_wp2_with fail
      refine H.out.mono ?_
      rintro e w1 ⟨rfl, hb1⟩
      go_wp2_with fail
      refine (K2.out w1).mono ?_
      rintro e w2 ⟨rfl, rfl⟩
      go_wp2_with fail
      go_ret3
      exact ⟨rfl, hb1⟩
    · rw [decide_eq_false hi] at H2
      have hc : chk [withoutE d, refsE] s = z := by
        have hw : withoutE d s = 0 := by unfold withoutE; rw [if_neg hi]
        show (if withoutE d s ≠ 0 then withoutE d s else if refsE s ≠ 0 then refsE s else 0) = z
        rw [hw, if_neg (by omega), hr]
        by_cases h : z = 0
        · rw [if_neg (by omega), h]
        · rw [if_pos h]
      rw [hc]
      have K2 := Lib.hid H2
      by_cases hz : z = 0
      · subst hz
        rw [if_neg (by simp)]
        unfold trV
        clear HQ H2 hqe hql hq hs ht hn hxz hi hr hc
        go_enter Tryd.func19, Tryd.ntmps19
        go_wp2_with fail
        refine H.out.mono ?_
        rintro e w1 ⟨rfl, hb1⟩
        go_wp2_with fail
        refine (K2.out w1).mono ?_
        rintro e w2 ⟨rfl, rfl⟩
        go_wp2_with fail
        refine (H3.out w1 hb1).mono ?_
        rintro e w3 ⟨rfl, hb3⟩
        go_wp2_with fail
        go_ret3
        exact ⟨rfl, hb1.trans (hb3.mono hb1.size)⟩
      · rw [if_pos hz, trV_no]
        have t1 : (z != 0) = true := by simpa using hz
        clear HQ H2 hqe hql hq hs ht hn hxz hi hr hc hz
        go_enter Tryd.func19, Tryd.ntmps19
        go_wp2_with fail
        refine H.out.mono ?_
        rintro e w1 ⟨rfl, hb1⟩
        go_wp2_with fail
        refine (K2.out w1).mono ?_
        rintro e w2 ⟨rfl, rfl⟩
        go_wp2_with fail
        refine (H3.out w1 hb1).mono ?_
        rintro e w3 ⟨rfl, hb3⟩
        go_wp2_with fail
        go_ret3
        exact ⟨rfl, hb1.trans (hb3.mono hb1.size)⟩
  · rw [if_pos h0]
    have hqe := hqe h0
    rw [hqe] at HQ
    rw [trV_no] at HQ ⊢
    have t1 : (e0 != 0) = true := by simpa using h0
    have H := Lib.hid HQ
    clear HQ hqe hql hq hs ht hn h0
    go_enter Tryd.func19, Tryd.ntmps19
    go_wp2_with fail
    refine H.out.mono ?_
    rintro e w1 ⟨rfl, hb1⟩
    go_wp2_with fail
    go_ret3
    exact ⟨rfl, hb1⟩
end Go.Proofs.YtgbbccfoceifnaaDoor
