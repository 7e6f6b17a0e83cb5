/- Texts between quotes: Value, Entity, by the program; Strict, by the document. Does a text stand at a place, by the document. Tags: names as results; a mark and the name behind it; tags that end an element, by the program and by the document. Tags that end an element, by the program and by the document. One attribute of a tag: a name, a sign and a value. -/
import Derived.Test.YtcpdllghlbdhiaaDoorPkae
import Derived.Test.YtcpdllghlbdhiaaDoorPkaf
import Derived.Test.YtcpdllghlbdhiaaDoorPkai
namespace Go.Proofs.YtcpdllghlbdhiaaDoor
open Go.ChangeShapes Go.WideShapes Go.ChangeAt Go.RowKit
set_option linter.unusedVariables false
set_option maxRecDepth 100000

theorem enters_without : Enters 169 := fun _ _ => by kernel_rfl
theorem enters_refs : Enters 149 := fun _ _ => by kernel_rfl
/-- What a value that may not hold byte c is. -/
def strT (c : Nat) (l : List UInt8) (k : Int) : Trip := chkT [withoutE c, refsE] (quoT l k)
theorem strT_tup (c : Nat) (l : List UInt8) (k : Int) : ∃ s y e, trV (strT c l k) = .tuple #[.string s, .int .i64 y, .int .i64 e] := ⟨_, _, _, rfl⟩
/-- The contract of 'checked' where its checks are those of a value. -/
theorem checked_val (d : Nat) (l : List UInt8) (A : Option Addr) (n c : Nat) (k : Int) (w : World)
    (hn : l.length = n) (hnc : n ≤ c) (hm : c ≤ 9223372036854775807) (hk : I64 k) (hn9 : n ≤ 1000000) (hs : Sees w A (vB l)) (ht : TabC w) :
    Calls Tryd.prog 147 #[.slice A n c, .int .i64 k, .slice (some ⟨w.heap.size + 1, 0, none⟩) 2 2] ((w.alloc (.cells #[.int .u8 (d : Int)] 5)).alloc (.cells #[.func (.func 169) #[] #[.pointer (some ⟨w.heap.size, 0, none⟩)], .func (.func 149) #[] #[]] 170))
      fun e w' => e = .returned (trV (strT d l k)) ∧ Below w.heap.size w w' := by
  obtain ⟨W, hW⟩ : ∃ W, (w.alloc (.cells #[.int .u8 (d : Int)] 5)).alloc (.cells #[.func (.func 169) #[] #[.pointer (some ⟨w.heap.size, 0, none⟩)], .func (.func 149) #[] #[]] 170) = W := ⟨_, rfl⟩
  have hb : Below w.heap.size w W := hW ▸ (((Below.refl _ w).alloc (Nat.le_refl _) _).alloc (by simp) _)
  have hsz : W.heap.size = w.heap.size + 2 := by rw [← hW]; simp
  have hcell : W.cell? ⟨w.heap.size, 0, none⟩ = some (.int .u8 (d : Int)) := by
    rw [← hW]
    have h1 : ((w.alloc (.cells #[.int .u8 (d : Int)] 5)).alloc (.cells #[.func (.func 169) #[] #[.pointer (some ⟨w.heap.size, 0, none⟩)], .func (.func 149) #[] #[]] 170)).heap[w.heap.size]? = some (.cells #[.int .u8 (d : Int)] 5) := by
      rw [Lib.alloc_old _ _ _ (by simp), heap_alloc_new]
    unfold World.cell?
    rw [h1]
    rfl
  have hS : Sees W (some ⟨w.heap.size + 1, 0, none⟩) (([(169, #[.pointer (some ⟨w.heap.size, 0, none⟩)], withoutE d), (149, #[], refsE)] : List Chk).map chkV) := by
    rw [← hW]
    have h := sees_lit (w.alloc (.cells #[.int .u8 (d : Int)] 5)) [.func (.func 169) #[] #[.pointer (some ⟨w.heap.size, 0, none⟩)], .func (.func 149) #[] #[]] 170 (0, 0)
    rw [show (w.alloc (.cells #[.int .u8 (d : Int)] 5)).heap.size = w.heap.size + 1 by simp] at h
    exact h
  rw [hW]
  have h := checked_any [(169, #[.pointer (some ⟨w.heap.size, 0, none⟩)], withoutE d), (149, #[], refsE)] l A (some ⟨w.heap.size + 1, 0, none⟩) n c 2 2 k W hn hnc hm hk hn9 (hs.below hb) rfl (by omega) hS (fun x hx => by
    have hx' : x = (169, #[.pointer (some ⟨w.heap.size, 0, none⟩)], withoutE d) ∨ x = (149, #[], refsE) := by simpa using hx
    rcases hx' with rfl | rfl
    · exact ⟨enters_without, fun s w' hs' hb' => without1_any d s w.heap.size w' (by rw [hb'.cell (p := ⟨w.heap.size, 0, none⟩) (by show w.heap.size < _; omega)]; exact hcell)⟩
    · exact ⟨enters_refs, fun s w' hs' hb' => rightRefs_any s w' hs' ((ht.below hb).below hb')⟩)
  exact h.mono fun e w' ⟨he, hb'⟩ => ⟨he, hb.trans (hb'.mono hb.size)⟩

set_option maxHeartbeats 1000000 in
theorem litValue_any (l : List UInt8) (A : Option Addr) (n c : Nat) (k : Int) (w : World)
    (hn : l.length = n) (hnc : n ≤ c) (hm : c ≤ 9223372036854775807) (hk : I64 k) (hn9 : n ≤ 1000000) (hs : Sees w A (vB l)) (ht : TabC w) :
    Calls Tryd.prog 120 #[.slice A n c, .int .i64 k] w fun e w' => e = .returned (trV (strT 60 l k)) ∧ Below w.heap.size w w' := by
  have H := checked_val 60 l A n c k w hn hnc hm hk hn9 hs ht
  have HW := Lib.hid (without_any 60 w)
  obtain ⟨s, y, e0, hv⟩ := strT_tup 60 l k
  rw [hv] at H ⊢
  have HH := Lib.hid H
  clear H hv hs ht hn
  go_enter Tryd.func120, Tryd.ntmps120
  go_wp2_with fail
  refine HW.out.mono ?_
  rintro e w1 ⟨rfl, rfl⟩
  go_wp2_with fail
  refine HH.out.mono ?_
  rintro e w1 ⟨rfl, hb⟩
  go_wp2_with fail
  go_ret3
  exact ⟨rfl, hb⟩

set_option maxHeartbeats 2000000 in
theorem rstrict_any (d : Nat) (hd : d < 256) (l : List UInt8) (A : Option Addr) (n c : Nat) (k : Int) (w : World)
    (hn : l.length = n) (hnc : n ≤ c) (hm : c ≤ 9223372036854775807) (hk : I64 k) (hn9 : n ≤ 1000000) (hs : Sees w A (vB l)) (ht : TabN w) :
    Calls Tryd.prog 89 #[.slice A n c, .int .i64 k, .int .u8 (d : Int)] w fun e w' => e = .returned (trV (strT d l k)) ∧ Below w.heap.size w w' := by
  have HQ := rquoted_any l A n c k w hn hnc hm hk hn9 hs
  have hqe := quoT_err l k
  have hql := quoT_len l k
  unfold strT chkT
  obtain ⟨s, y, e0, hq⟩ : ∃ s y e0, quoT l k = (s, y, e0) := ⟨_, _, _, rfl⟩
  rw [hq] at HQ hqe hql ⊢
  simp only at hqe hql ⊢
  by_cases h0 : e0 = 0
  · subst h0
    rw [if_neg (by simp)]
    unfold trV at HQ
    have H := Lib.hid HQ
    have hsl : s.length ≤ 1000000 := by omega
    have H2 := fun w' => rhas_any s d w' hsl hd
    have H3 := Lib.hid (fun (w' : World) (hb : Below w.heap.size w w') => rrefs_any s w' hsl (ht.below hb))
    unfold refsV at H3
    obtain ⟨x, z, hxz⟩ : ∃ x z, refsN s s.length 0 = (x, z) := ⟨_, _, rfl⟩
    have hr : refsE s = z := by unfold refsE; rw [hxz]
    rw [hxz] at H3
    by_cases hi : 0 ≤ Lib.indexByte s (UInt8.ofNat d)
    · have hc : chk [withoutE d, refsE] s = 7 := by
        have hw : withoutE d s = 7 := by unfold withoutE; rw [if_pos hi]
        show (if withoutE d s ≠ 0 then withoutE d s else _) = 7
        rw [hw, if_pos (by omega)]
      rw [hc, decide_eq_true hi] at *
      rw [if_pos (by omega), trV_no]
      have K2 := Lib.hid H2
      clear HQ H2 hqe hql hq hs ht hn hxz hi hr hc
      go_enter Tryd.func89, Tryd.ntmps89
      go_wp2_with fail
      refine H.out.mono ?_
      rintro e w1 ⟨rfl, hb1⟩
      go_wp2_with fail
      refine (K2.out w1).mono ?_
      rintro e w2 ⟨rfl, rfl⟩
      go_wp2_with fail
      go_ret3
      exact ⟨rfl, hb1⟩
    · rw [decide_eq_false hi] at H2
      have hc : chk [withoutE d, refsE] s = z := by
        have hw : withoutE d s = 0 := by unfold withoutE; rw [if_neg hi]
        show (if withoutE d s ≠ 0 then withoutE d s else if refsE s ≠ 0 then refsE s else 0) = z
        rw [hw, if_neg (by omega), hr]
        by_cases h : z = 0
        · rw [if_neg (by omega), h]
        · rw [if_pos h]
      rw [hc]
      have K2 := Lib.hid H2
      by_cases hz : z = 0
      · subst hz
        rw [if_neg (by simp)]
        unfold trV
        clear HQ H2 hqe hql hq hs ht hn hxz hi hr hc
        go_enter Tryd.func89, Tryd.ntmps89
        go_wp2_with fail
        refine H.out.mono ?_
        rintro e w1 ⟨rfl, hb1⟩
        go_wp2_with fail
        refine (K2.out w1).mono ?_
        rintro e w2 ⟨rfl, rfl⟩
        go_wp2_with fail
        refine (H3.out w1 hb1).mono ?_
        rintro e w3 ⟨rfl, hb3⟩
        go_wp2_with fail
        go_ret3
        exact ⟨rfl, hb1.trans (hb3.mono hb1.size)⟩
      · rw [if_pos hz, trV_no]
        have t1 : (z != 0) = true := by simpa using hz
        clear HQ H2 hqe hql hq hs ht hn hxz hi hr hc hz
        go_enter Tryd.func89, Tryd.ntmps89
        go_wp2_with fail
        refine H.out.mono ?_
        rintro e w1 ⟨rfl, hb1⟩
        go_wp2_with fail
        refine (K2.out w1).mono ?_
        rintro e w2 ⟨rfl, rfl⟩
        go_wp2_with fail
        refine (H3.out w1 hb1).mono ?_
        rintro e w3 ⟨rfl, hb3⟩
        go_wp2_with fail
        go_ret3
        exact ⟨rfl, hb1.trans (hb3.mono hb1.size)⟩
  · rw [if_pos h0]
    have hqe := hqe h0
    rw [hqe] at HQ
    rw [trV_no] at HQ ⊢
    have t1 : (e0 != 0) = true := by simpa using h0
    have H := Lib.hid HQ
    clear HQ hqe hql hq hs ht hn h0
    go_enter Tryd.func89, Tryd.ntmps89
    go_wp2_with fail
    refine H.out.mono ?_
    rintro e w1 ⟨rfl, hb1⟩
    go_wp2_with fail
    go_ret3
    exact ⟨rfl, hb1⟩
end Go.Proofs.YtcpdllghlbdhiaaDoor
namespace Go.Proofs.YtcpdllghlbdhiaaDoor
open Go.ChangeShapes Go.WideShapes Go.ChangeAt Go.RowKit
set_option linter.unusedVariables false
set_option maxRecDepth 100000

/-- Stands a text at a place? -/
def atB (l : List UInt8) (k : Int) (m : List UInt8) : Bool := decide (0 ≤ k) && ((l.drop k.toNat).take m.length == m)
theorem atB_fit {l m : List UInt8} {k : Nat} (h : atB l (k : Int) m = true) (hm : m ≠ []) : k + m.length ≤ l.length := by
  unfold atB at h
  rw [Bool.and_eq_true, beq_iff_eq, Int.toNat_natCast] at h
  have h2 := congrArg List.length h.2
  rw [List.length_take, List.length_drop] at h2
  have := List.length_pos_iff.2 hm
  omega
set_option maxHeartbeats 1000000 in
theorem rat_any (l m : List UInt8) (A : Option Addr) (n c : Nat) (k : Int) (w : World) (hn : l.length = n) (hnc : n ≤ c) (hm : c ≤ 9223372036854775807) (hn9 : n ≤ 1000000) (hk : I64 k) (hm0 : m ≠ []) (hm9 : m.length ≤ 1000000) (hs : Sees w A (vB l)) :
    Calls Tryd.prog 65 #[.slice A n c, .int .i64 k, strV m] w fun e w' => e = .returned (.bool (atB l k m)) ∧ w = w' := by
  have hkl := hk.1
  have hkh := hk.2
  have hml := List.length_pos_iff.2 hm0
  have HSM := str_size m
  by_cases hneg : k < 0
  · have hf : atB l k m = false := by unfold atB; rw [decide_eq_false (by omega)]; rfl
    rw [hf]
    go_enter Tryd.func65, Tryd.ntmps65
    go_wp2_with fail
    go_ret
    exact ⟨rfl, rfl⟩
  · obtain ⟨j, rfl⟩ : ∃ j : Nat, k = j := ⟨k.toNat, by omega⟩
    by_cases hfit : j + m.length ≤ n
    · obtain ⟨ad, rfl, _⟩ := hs.byte (k := j) (by omega)
      have hcj : ¬ c = j := by omega
      have hp : Sees w (some (ad.add j)) (vB ((l.drop j).take m.length)) := by
        have h1 := hs.drop (k := j) (cap := c) (by rw [vB_len]; omega)
        rw [if_neg hcj, ← vB_drop] at h1
        rw [vB_take]
        exact h1.take _
      have hv : atB l (j : Int) m = ((l.drop j).take m.length == m) := by unfold atB; rw [decide_eq_true (by omega), Int.toNat_natCast]; rfl
      rw [hv]
      obtain ⟨T, hT⟩ : ∃ T, (l.drop j).take m.length = T := ⟨_, rfl⟩
      rw [hT] at hp ⊢
      have hTl : T.length = m.length := by rw [← hT, List.length_take, List.length_drop]; omega
      have kc := conv_sees w (some (ad.add j)) m.length (c - j) T hTl hp
      have t1 : decide ((m.length : Int) ≤ (n : Int) - (j : Int)) = true := by simp; omega
      clear hs hp hT hn hv hm0
      go_enter Tryd.func65, Tryd.ntmps65
      go_wp2_with fail
      go_ret
      exact ⟨rfl, rfl⟩
    · have hf : atB l (j : Int) m = false := by
        cases h : atB l (j : Int) m with
        | false => rfl
        | true => exact absurd (atB_fit h hm0) (by omega)
      have t1 : decide ((m.length : Int) ≤ (n : Int) - (j : Int)) = false := by simp; omega
      rw [hf]
      clear hs hf hn hm0
      go_enter Tryd.func65, Tryd.ntmps65
      go_wp2_with fail
      go_ret
      exact ⟨rfl, rfl⟩
end Go.Proofs.YtcpdllghlbdhiaaDoor
namespace Go.Proofs.YtcpdllghlbdhiaaDoor
open Go.ChangeShapes Go.WideShapes Go.ChangeAt Go.RowKit
set_option linter.unusedVariables false
set_option maxRecDepth 100000

/-- The name at a place. -/
def nmT (l : List UInt8) (k : Int) : Trip :=
  if k < 0 ∨ (l.length : Int) < k then noT 3
  else if endN l charN l.length startN k.toNat = k.toNat then noT 7
  else if 1024 < endN l charN l.length startN k.toNat - k.toNat then noT 11
  else ((l.drop k.toNat).take (endN l charN l.length startN k.toNat - k.toNat), (endN l charN l.length startN k.toNat : Nat), 0)
theorem readV_tr (l : List UInt8) (k : Int) : readV l k startN charN = trV (nmT l k) := by
  unfold readV nmT
  split
  · rfl
  · split
    · rfl
    · split <;> rfl
theorem nmT_err (l : List UInt8) (k : Int) (h : (nmT l k).2.2 ≠ 0) : nmT l k = noT (nmT l k).2.2 := by
  unfold nmT at h ⊢
  split
  · rfl
  · next h1 =>
    rw [if_neg h1] at h
    split
    · rfl
    · next h2 =>
      rw [if_neg h2] at h
      split
      · rfl
      · next h3 => rw [if_neg h3] at h; exact absurd rfl h
theorem nmT_go {l : List UInt8} {k : Nat} (hk : k ≤ l.length) (h : (nmT l (k : Int)).2.2 = 0) : ∃ z : Nat, nmT l (k : Int) = ((l.drop k).take (z - k), (z : Int), 0) ∧ k < z ∧ z ≤ l.length ∧ z - k ≤ 1024 := by
  have hz := endN_le l charN l.length startN k hk
  unfold nmT at h ⊢
  rw [if_neg (by omega), Int.toNat_natCast] at h ⊢
  split
  · next h2 => rw [if_pos h2] at h; exact absurd h (by show (7 : Int) ≠ 0; omega)
  · next h2 =>
    rw [if_neg h2] at h
    split
    · next h3 => rw [if_pos h3] at h; exact absurd h (by show (11 : Int) ≠ 0; omega)
    · next h3 => exact ⟨_, rfl, by omega, hz.2, by omega⟩
/-- A mark, and the name behind it. -/
def begT (l : List UInt8) (k : Int) (m : List UInt8) : Trip :=
  if k < 0 ∨ (l.length : Int) < k then noT 3 else if atB l k m = false then noT 7 else nmT l (k + m.length)
theorem trV_tup (x : Trip) : ∃ s y e, trV x = .tuple #[.string s, .int .i64 y, .int .i64 e] := ⟨_, _, _, rfl⟩

set_option maxHeartbeats 2000000 in
theorem begin_any (l m : List UInt8) (A : Option Addr) (n c : Nat) (k : Int) (w : World) (hn : l.length = n) (hnc : n ≤ c) (hm : c ≤ 9223372036854775807) (hn9 : n ≤ 1000000) (hk : I64 k) (hm0 : m ≠ []) (hm9 : m.length ≤ 1000) (hs : Sees w A (vB l)) (ht : TabN w) :
    Calls Tryd.prog 91 #[.slice A n c, .int .i64 k, strV m] w fun e w' => e = .returned (trV (begT l k m)) ∧ Below w.heap.size w w' := by
  have hkl := hk.1
  have hkh := hk.2
  have hml := List.length_pos_iff.2 hm0
  have HSM := str_size m
  unfold begT
  rw [hn]
  by_cases hout : k < 0 ∨ (n : Int) < k
  · rw [if_pos hout, trV_no]
    clear hm0
    rcases hout with h0 | h0
    all_goals
      go_enter Tryd.func91, Tryd.ntmps91
      go_wp2_with fail
      go_ret3
      exact ⟨rfl, Below.refl _ _⟩
  · obtain ⟨j, rfl⟩ : ∃ j : Nat, k = j := ⟨k.toNat, by omega⟩
    rw [if_neg hout]
    have hj : j ≤ n := by omega
    obtain ⟨B, cap, W1, hrun, hc1, hc2, hb1, hBl, hBw, hs1⟩ := bytes_made m w (by omega)
    have hsW := hs.below hb1
    have htW := ht.below hb1
    by_cases hjn : j = n
    · have hf : atB l (j : Int) m = false := by
        cases h : atB l (j : Int) m with
        | false => rfl
        | true => exact absurd (atB_fit h hm0) (by omega)
      have hp0 : (([] : List UInt8).take m.length == m) = false := by rw [List.take_nil, beq_eq_false_iff_ne]; exact fun e => hm0 e.symm
      have H0 := Lib.hid (fun (A' : Option Addr) (c' : Nat) => hp0 ▸ hasPre_any [] m A' (some ⟨B, 0, none⟩) 0 m.length c' cap W1 rfl (by omega) (by omega) rfl hml (by omega) (sees_nil _ _) hs1)
      rw [if_pos hf, trV_no]
      clear hs hsW hs1 hf hp0 hm0 hn
      subst hjn
      by_cases hcj : c = j
      all_goals
        go_enter Tryd.func91, Tryd.ntmps91
        go_wp2_with fail
        refine (H0.out _ _).mono ?_
        rintro e w1 ⟨rfl, rfl⟩
        go_wp2_with fail
        go_ret3
        exact ⟨rfl, hb1⟩
    · obtain ⟨ad, rfl, _⟩ := hs.byte (k := j) (by omega)
      have hcj : ¬ c = j := by omega
      have hsd : Sees W1 (some (ad.add j)) (vB (l.drop j)) := by
        have h1 := hsW.drop (k := j) (cap := c) (by rw [vB_len]; omega)
        rw [if_neg hcj, ← vB_drop] at h1
        exact h1
      have hp := hasPre_any (l.drop j) m (some (ad.add j)) (some ⟨B, 0, none⟩) (n - j) m.length (c - j) cap W1 (by rw [List.length_drop, hn]) (by omega) (by omega) rfl hml (by omega) hsd hs1
      have hv : atB l (j : Int) m = ((l.drop j).take m.length == m) := by unfold atB; rw [decide_eq_true (by omega), Int.toNat_natCast]; rfl
      have HN := name_any l (some ad) n c ((j : Int) + (m.length : Int)) W1 hn hnc hm ⟨by omega, by omega⟩ hsW htW
      rw [readV_tr] at HN
      cases hq : atB l (j : Int) m with
      | false =>
        rw [← hv, hq] at hp
        have HP := Lib.hid hp
        rw [if_pos rfl, trV_no]
        clear hs hsW hs1 hsd hp hv HN hq hm0 hn
        go_enter Tryd.func91, Tryd.ntmps91
        go_wp2_with fail
        refine HP.out.mono ?_
        rintro e w1 ⟨rfl, rfl⟩
        go_wp2_with fail
        go_ret3
        exact ⟨rfl, hb1⟩
      | true =>
        rw [← hv, hq] at hp
        have HP := Lib.hid hp
        rw [if_neg (by simp)]
        obtain ⟨s, y, e0, htu⟩ := trV_tup (nmT l ((j : Int) + (m.length : Int)))
        rw [htu] at HN ⊢
        have HNN := Lib.hid HN
        clear hs hsW hs1 hsd hp hv HN hq hm0 hn htu
        go_enter Tryd.func91, Tryd.ntmps91
        go_wp2_with fail
        refine HP.out.mono ?_
        rintro e w1 ⟨rfl, rfl⟩
        go_wp2_with fail
        refine HNN.out.mono ?_
        rintro e w1 ⟨rfl, hb2⟩
        go_wp2_with fail
        go_ret3
        exact ⟨rfl, hb1.trans (hb2.mono hb1.size)⟩
end Go.Proofs.YtcpdllghlbdhiaaDoor
namespace Go.Proofs.YtcpdllghlbdhiaaDoor
open Go.ChangeShapes Go.WideShapes Go.ChangeAt Go.RowKit
set_option linter.unusedVariables false
set_option maxRecDepth 100000

theorem begT_err (l : List UInt8) (k : Int) (m : List UInt8) (h : (begT l k m).2.2 ≠ 0) : begT l k m = noT (begT l k m).2.2 := by
  unfold begT at h ⊢
  split
  · rfl
  · next h1 =>
    rw [if_neg h1] at h
    split
    · rfl
    · next h2 => rw [if_neg h2] at h; exact nmT_err _ _ h
theorem begT_go {l : List UInt8} {k : Int} {m : List UInt8} (hm : m ≠ []) (h : (begT l k m).2.2 = 0) : ∃ (s : List UInt8) (z : Nat), begT l k m = (s, (z : Int), 0) ∧ z ≤ l.length ∧ s.length ≤ 1024 := by
  unfold begT at h ⊢
  split
  · next h1 => rw [if_pos h1] at h; exact absurd h (by show (3 : Int) ≠ 0; omega)
  · next h1 =>
    rw [if_neg h1] at h
    split
    · next h2 => rw [if_pos h2] at h; exact absurd h (by show (7 : Int) ≠ 0; omega)
    · next h2 =>
      rw [if_neg h2] at h
      obtain ⟨j, rfl⟩ : ∃ j : Nat, k = j := ⟨k.toNat, by omega⟩
      have hf := atB_fit (by simpa using h2) hm
      have e : (j : Int) + (m.length : Int) = ((j + m.length : Nat) : Int) := by omega
      rw [e] at h ⊢
      obtain ⟨z, hz, h3, h4, h5⟩ := nmT_go hf h
      exact ⟨_, z, hz, h4, by rw [List.length_take]; omega⟩
theorem blkN_le (l : List UInt8) : ∀ f k, k ≤ l.length → k ≤ blkN l f k ∧ blkN l f k ≤ l.length
  | 0, k, h => ⟨Nat.le_refl _, h⟩
  | f + 1, k, h => by
    rw [blkN]
    split
    · next h1 => have := blkN_le l f (k + 1) (by omega); exact ⟨by omega, this.2⟩
    · exact ⟨Nat.le_refl _, h⟩
/-- A tag that ends an element. -/
def closeT (l : List UInt8) (k : Int) : Trip :=
  if (begT l k [60, 47]).2.2 ≠ 0 then noT (begT l k [60, 47]).2.2
  else if blkN l l.length (begT l k [60, 47]).2.1.toNat = l.length ∨ byteAt l (blkN l l.length (begT l k [60, 47]).2.1.toNat) ≠ 62 then noT 7
  else ((begT l k [60, 47]).1, ((blkN l l.length (begT l k [60, 47]).2.1.toNat + 1 : Nat) : Int), 0)
theorem at_one {l : List UInt8} {z b : Nat} (hb : b < 256) (hz : z ≤ l.length) : atB l (z : Int) [UInt8.ofNat b] = decide (z < l.length ∧ byteAt l z = b) := by
  rw [Bool.eq_iff_iff, decide_eq_true_eq]
  unfold atB
  rw [Bool.and_eq_true, beq_iff_eq, Int.toNat_natCast, decide_eq_true_eq]
  constructor
  · rintro ⟨_, h⟩
    have hlt : z < l.length := by
      rcases Nat.lt_or_ge z l.length with h1 | h1
      · exact h1
      · rw [List.drop_eq_nil_of_le h1] at h; simp at h
    refine ⟨hlt, ?_⟩
    rw [List.drop_eq_getElem_cons hlt] at h
    simp only [List.length_cons, List.length_nil, List.take_succ_cons, List.take_zero, List.cons.injEq, and_true] at h
    unfold byteAt
    rw [List.getElem?_eq_getElem hlt, Option.getD_some, h]
    exact ofNat_toNat hb
  · rintro ⟨hlt, h⟩
    refine ⟨by omega, ?_⟩
    rw [List.drop_eq_getElem_cons hlt]
    unfold byteAt at h
    rw [List.getElem?_eq_getElem hlt, Option.getD_some] at h
    simp only [List.length_cons, List.length_nil, List.take_succ_cons, List.take_zero]
    rw [← h]
    simp

set_option maxHeartbeats 2000000 in
theorem close_any (l : List UInt8) (A : Option Addr) (n c : Nat) (k : Int) (w : World) (hn : l.length = n) (hnc : n ≤ c) (hm : c ≤ 9223372036854775807) (hn9 : n ≤ 1000000) (hk : I64 k) (hs : Sees w A (vB l)) (ht : TabN w) :
    Calls Tryd.prog 44 #[.slice A n c, .int .i64 k] w fun e w' => e = .returned (trV (closeT l k)) ∧ Below w.heap.size w w' := by
  have HB := begin_any l [60, 47] A n c k w hn hnc hm hn9 hk (by simp) (by simp) hs ht
  have hbe := begT_err l k [60, 47]
  have hbg := begT_go (l := l) (k := k) (m := [60, 47]) (by simp)
  unfold closeT
  by_cases h0 : (begT l k [60, 47]).2.2 = 0
  · obtain ⟨s, z, hz, hzl, _⟩ := hbg h0
    rw [hz] at HB ⊢
    rw [if_neg (by simp)]
    simp only [Int.toNat_natCast]
    have hbl := blkN_le l l.length z hzl
    have H2 := fun (w' : World) (hb : Below w.heap.size w w') => blanks_any l A n c (z : Int) w' hn hnc (by omega) ⟨by omega, by omega⟩ (hs.below hb)
    rw [blkV_in hzl] at H2
    obtain ⟨q, hq⟩ : ∃ q, blkN l l.length z = q := ⟨_, rfl⟩
    rw [hq] at H2 hbl ⊢
    have K2 := Lib.hid H2
    unfold trV at HB
    have KB := Lib.hid HB
    by_cases hqn : q = l.length
    · rw [if_pos (.inl hqn), trV_no]
      rw [hn] at hqn
      subst hqn
      clear hs HB H2 hbe hbg h0 hz hq hbl hzl hn
      go_enter Tryd.func44, Tryd.ntmps44
      go_wp2_with fail
      refine KB.out.mono ?_
      rintro e w1 ⟨rfl, hb1⟩
      go_wp2_with fail
      refine (K2.out w1 hb1).mono ?_
      rintro e w2 ⟨rfl, rfl⟩
      go_wp2_with fail
      go_ret3
      exact ⟨rfl, hb1⟩
    · obtain ⟨ad, rfl, hcell⟩ := hs.byte (k := q) (by omega)
      obtain ⟨d, hd⟩ : ∃ d, byteAt l q = d := ⟨_, rfl⟩
      have hd9 := byteAt_lt l q
      rw [hd] at hcell hd9 ⊢
      have hqn' : q ≠ n := by omega
      have hql : q < n := by omega
      have hC := fun (w' : World) (hb : Below w.heap.size w w') => cell_later hb hcell
      have KC := Lib.hid hC
      by_cases h62 : d = 62
      · rw [if_neg (by omega)]
        subst h62
        unfold trV
        clear hs HB H2 hbe hbg h0 hz hq hbl hzl hn hcell hd hC hqn
        go_enter Tryd.func44, Tryd.ntmps44
        go_wp2_with fail
        refine KB.out.mono ?_
        rintro e w1 ⟨rfl, hb1⟩
        have hcell1 := KC.out w1 hb1
        go_wp2_with fail
        refine (K2.out w1 hb1).mono ?_
        rintro e w2 ⟨rfl, rfl⟩
        go_wp2_with fail
        go_ret3
        exact ⟨ret_t3 (by omega), hb1⟩
      · rw [if_pos (.inr h62), trV_no]
        have t1 : ((d : Int) != 62) = true := by simp; omega
        clear hs HB H2 hbe hbg h0 hz hq hbl hzl hn hcell hd hC hqn h62
        go_enter Tryd.func44, Tryd.ntmps44
        go_wp2_with fail
        refine KB.out.mono ?_
        rintro e w1 ⟨rfl, hb1⟩
        have hcell1 := KC.out w1 hb1
        go_wp2_with fail
        refine (K2.out w1 hb1).mono ?_
        rintro e w2 ⟨rfl, rfl⟩
        go_wp2_with fail
        go_ret3
        exact ⟨rfl, hb1⟩
  · rw [if_pos h0]
    rw [hbe h0] at HB
    obtain ⟨e0, he0⟩ : ∃ e0, (begT l k [60, 47]).2.2 = e0 := ⟨_, rfl⟩
    rw [he0] at HB h0 ⊢
    rw [trV_no] at HB ⊢
    have t1 : (e0 != 0) = true := by simpa using h0
    have KB := Lib.hid HB
    clear hs HB hbe hbg h0 he0 hn
    go_enter Tryd.func44, Tryd.ntmps44
    go_wp2_with fail
    refine KB.out.mono ?_
    rintro e w1 ⟨rfl, hb1⟩
    go_wp2_with fail
    go_ret3
    exact ⟨rfl, hb1⟩
set_option maxHeartbeats 4000000 in
theorem rclose_any (l : List UInt8) (A : Option Addr) (n c : Nat) (k : Int) (w : World) (hn : l.length = n) (hnc : n ≤ c) (hm : c ≤ 9223372036854775807) (hn9 : n ≤ 1000000) (hk : I64 k) (hs : Sees w A (vB l)) :
    Calls Tryd.prog 45 #[.slice A n c, .int .i64 k] w fun e w' => e = .returned (trV (closeT l k)) ∧ Below w.heap.size w w' := by
  have hkl := hk.1
  have hkh := hk.2
  have HA := Lib.hid (fun (w' : World) (hb : Below w.heap.size w w') => rat_any l [60, 47] A n c k w' hn hnc hm hn9 hk (by simp) (by simp) (hs.below hb))
  by_cases hout : k < 0 ∨ (n : Int) < k
  · have hv : closeT l k = noT 3 := by
      have hb : begT l k [60, 47] = noT 3 := by unfold begT; rw [if_pos (by rw [hn]; exact hout)]
      unfold closeT
      rw [hb, if_pos (by show (3 : Int) ≠ 0; omega)]
      rfl
    rw [hv, trV_no]
    clear hv hs
    rcases hout with h0 | h0
    all_goals
      go_enter Tryd.func45, Tryd.ntmps45
      go_wp2_with fail
      go_ret3
      exact ⟨rfl, Below.refl _ _⟩
  · obtain ⟨j, rfl⟩ : ∃ j : Nat, k = j := ⟨k.toNat, by omega⟩
    have hj : j ≤ n := by omega
    cases hq : atB l (j : Int) [60, 47] with
    | false =>
      have hv : closeT l (j : Int) = noT 7 := by
        have hb : begT l (j : Int) [60, 47] = noT 7 := by unfold begT; rw [if_neg (by rw [hn]; exact hout), if_pos hq]
        unfold closeT
        rw [hb, if_pos (by show (7 : Int) ≠ 0; omega)]
        rfl
      rw [hv, trV_no]
      have ha := HA.out w (Below.refl _ _)
      rw [hq] at ha
      have KA := Lib.hid ha
      clear hv hs ha hq hn
      go_enter Tryd.func45, Tryd.ntmps45
      go_wp2_with fail
      refine KA.out.mono ?_
      rintro e w1 ⟨rfl, rfl⟩
      go_wp2_with fail
      go_ret3
      exact ⟨rfl, Below.refl _ _⟩
    | true =>
      have ha := HA.out w (Below.refl _ _)
      rw [hq] at ha
      have KA := Lib.hid ha
      have hb : begT l (j : Int) [60, 47] = nmT l ((j : Int) + 2) := by unfold begT; rw [if_neg (by rw [hn]; exact hout), if_neg (by rw [hq]; simp)]; rfl
      have hf := atB_fit hq (by simp)
      have HR := rread_any l A n c ((j : Int) + 2) w false hn hnc (by omega) ⟨by omega, by omega⟩ hs
      rw [show kindP false startN = startN from rfl, show kindP false charN = charN from rfl, readV_tr] at HR
      have hbe := nmT_err l ((j : Int) + 2)
      unfold closeT
      rw [hb]
      by_cases h0 : (nmT l ((j : Int) + 2)).2.2 = 0
      · have e2 : (j : Int) + 2 = ((j + 2 : Nat) : Int) := by omega
        obtain ⟨z, hz, hz1, hzl, _⟩ := nmT_go (l := l) (k := j + 2) (by simpa using hf) (by rw [← e2]; exact h0)
        rw [← e2] at hz
        rw [hz] at HR ⊢
        obtain ⟨s, hsv⟩ : ∃ s, (l.drop (j + 2)).take (z - (j + 2)) = s := ⟨_, rfl⟩
        rw [hsv] at HR ⊢
        rw [if_neg (by simp)]
        simp only [Int.toNat_natCast]
        have hbl := blkN_le l l.length z hzl
        have H2 := fun (w' : World) (hb : Below w.heap.size w w') => rblanks_any l A n c (z : Int) w' hn hnc (by omega) ⟨by omega, by omega⟩ (hs.below hb)
        rw [blkV_in hzl] at H2
        obtain ⟨q, hqq⟩ : ∃ q, blkN l l.length z = q := ⟨_, rfl⟩
        rw [hqq] at H2 hbl ⊢
        have K2 := Lib.hid H2
        have H3 := fun (w' : World) (hb : Below w.heap.size w w') => rat_any l [62] A n c (q : Int) w' hn hnc hm hn9 ⟨by omega, by omega⟩ (by simp) (by simp) (hs.below hb)
        rw [show ([62] : List UInt8) = [UInt8.ofNat 62] from rfl, at_one (by omega) hbl.2] at H3
        have hq9 : q ≤ n := by omega
        unfold trV at HR
        have KR := Lib.hid HR
        by_cases hyes : q < l.length ∧ byteAt l q = 62
        · rw [decide_eq_true hyes] at H3
          have K3 := Lib.hid H3
          rw [if_neg (by omega)]
          unfold trV
          clear hs HR H2 H3 hbe h0 hz hqq hbl hzl hz1 hn ha hq hb hf e2 hsv hyes
          go_enter Tryd.func45, Tryd.ntmps45
          go_wp2_with fail
          refine KA.out.mono ?_
          rintro e w1 ⟨rfl, rfl⟩
          go_wp2_with fail
          refine KR.out.mono ?_
          rintro e w1 ⟨rfl, hb1⟩
          go_wp2_with fail
          refine (K2.out w1 hb1).mono ?_
          rintro e w2 ⟨rfl, rfl⟩
          go_wp2_with fail
          refine (K3.out w1 hb1).mono ?_
          rintro e w2 ⟨rfl, rfl⟩
          go_wp2_with fail
          go_ret3
          exact ⟨ret_t3 (by omega), hb1⟩
        · rw [decide_eq_false hyes] at H3
          have K3 := Lib.hid H3
          rw [if_pos (by omega), trV_no]
          clear hs HR H2 H3 hbe h0 hz hqq hbl hzl hz1 hn ha hq hb hf e2 hsv hyes
          go_enter Tryd.func45, Tryd.ntmps45
          go_wp2_with fail
          refine KA.out.mono ?_
          rintro e w1 ⟨rfl, rfl⟩
          go_wp2_with fail
          refine KR.out.mono ?_
          rintro e w1 ⟨rfl, hb1⟩
          go_wp2_with fail
          refine (K2.out w1 hb1).mono ?_
          rintro e w2 ⟨rfl, rfl⟩
          go_wp2_with fail
          refine (K3.out w1 hb1).mono ?_
          rintro e w2 ⟨rfl, rfl⟩
          go_wp2_with fail
          go_ret3
          exact ⟨rfl, hb1⟩
      · rw [if_pos h0]
        rw [hbe h0] at HR
        obtain ⟨e0, he0⟩ : ∃ e0, (nmT l ((j : Int) + 2)).2.2 = e0 := ⟨_, rfl⟩
        rw [he0] at HR h0 ⊢
        rw [trV_no] at HR ⊢
        have t1 : (e0 != 0) = true := by simpa using h0
        have KR := Lib.hid HR
        clear hs HR hbe h0 he0 hn ha hq hb hf
        go_enter Tryd.func45, Tryd.ntmps45
        go_wp2_with fail
        refine KA.out.mono ?_
        rintro e w1 ⟨rfl, rfl⟩
        go_wp2_with fail
        refine KR.out.mono ?_
        rintro e w1 ⟨rfl, hb1⟩
        go_wp2_with fail
        go_ret3
        exact ⟨rfl, hb1⟩
end Go.Proofs.YtcpdllghlbdhiaaDoor
namespace Go.Proofs.YtcpdllghlbdhiaaDoor
open Go.ChangeShapes Go.WideShapes Go.ChangeAt Go.RowKit
set_option linter.unusedVariables false
set_option maxRecDepth 100000

/-- A name, a value, the place behind, an error. -/
abbrev Quad := List UInt8 × List UInt8 × Int × Int
def noQ (e : Int) : Quad := ([], [], 0, e)
def quV (x : Quad) : Value := .tuple #[.agg #[strV x.1, strV x.2.1], .int .i64 x.2.2.1, .int .i64 x.2.2.2]
/-- One attribute. -/
def pairT (l : List UInt8) (k : Int) : Quad :=
  if (nmT l k).2.2 ≠ 0 then noQ (nmT l k).2.2
  else if blkN l l.length (nmT l k).2.1.toNat = l.length ∨ byteAt l (blkN l l.length (nmT l k).2.1.toNat) ≠ 61 then noQ 7
  else if (strT 60 l (blkN l l.length (blkN l l.length (nmT l k).2.1.toNat + 1) : Nat)).2.2 ≠ 0 then noQ (strT 60 l (blkN l l.length (blkN l l.length (nmT l k).2.1.toNat + 1) : Nat)).2.2
  else ((nmT l k).1, (strT 60 l (blkN l l.length (blkN l l.length (nmT l k).2.1.toNat + 1) : Nat)).1, (strT 60 l (blkN l l.length (blkN l l.length (nmT l k).2.1.toNat + 1) : Nat)).2.1, 0)
theorem quV_no (e : Int) : quV (noQ e) = .tuple #[.agg #[.string ⟨#[]⟩, .string ⟨#[]⟩], .int .i64 0, .int .i64 e] := rfl

theorem two_cells {W : World} {b : Nat} {s0 s1 : Value} (v0 v1 : Value) (x0 : W.cell? ⟨b, 0, none⟩ = some s0) (x1 : W.cell? ⟨b, 1, none⟩ = some s1) :
    ((W.setCell ⟨b, 0, none⟩ v0).setCell ⟨b, 1, none⟩ v1).cell? ⟨b, 0, none⟩ = some v0 ∧ ((W.setCell ⟨b, 0, none⟩ v0).setCell ⟨b, 1, none⟩ v1).cell? ⟨b, 1, none⟩ = some v1 := by
  have c0 := World.cell?_setCell_same' W ⟨b, 0, none⟩ v0 (by rw [x0]; rfl)
  have x1' : (W.setCell ⟨b, 0, none⟩ v0).cell? ⟨b, 1, none⟩ = some s1 := by rw [World.cell?_setCell_other (h := by simp)]; exact x1
  have c1 := World.cell?_setCell_same' (W.setCell ⟨b, 0, none⟩ v0) ⟨b, 1, none⟩ v1 (by rw [x1']; rfl)
  exact ⟨by rw [World.cell?_setCell_other (h := by simp)]; exact c0, c1⟩
theorem strT_err (d : Nat) (l : List UInt8) (k : Int) (h : (strT d l k).2.2 ≠ 0) : strT d l k = noT (strT d l k).2.2 := by
  unfold strT chkT at h ⊢
  split
  · rfl
  · next h1 =>
    rw [if_neg h1] at h
    split
    · rfl
    · next h2 => rw [if_neg h2] at h; exact absurd rfl h
/-- A new pair's cells, as every later world shows them. -/
def NewPair (w W : World) : Prop := ∀ w', Below W.heap.size W w' →
  w'.cell? ⟨w.heap.size, 0, none⟩ = some (.string ⟨#[]⟩) ∧ w'.cell? ⟨w.heap.size, 1, none⟩ = some (.string ⟨#[]⟩) ∧ w'.frozen? ⟨w.heap.size, 0, none⟩ = false ∧ w'.frozen? ⟨w.heap.size, 1, none⟩ = false ∧ Below w.heap.size w w'
theorem newPair (w : World) : NewPair w (w.alloc (.cells #[.string ⟨#[]⟩, .string ⟨#[]⟩] 74)) := by
  intro w' hb
  have B0 := (Below.refl w.heap.size w).alloc (Nat.le_refl _) (.cells #[.string ⟨#[]⟩, .string ⟨#[]⟩] 74)
  refine ⟨(hb.cell (by simp)).trans (by simp [World.cell?_alloc_new]), (hb.cell (by simp)).trans (by simp [World.cell?_alloc_new]), (hb.frozen (by simp)).trans (World.frozen?_alloc_new ..), (hb.frozen (by simp)).trans (World.frozen?_alloc_new ..), B0.trans (hb.mono B0.size)⟩

set_option maxHeartbeats 2000000 in
theorem pair_bad (l : List UInt8) (A : Option Addr) (n c : Nat) (k : Int) (w : World) (hn : l.length = n) (hnc : n ≤ c) (hm : c ≤ 9223372036854775807) (hn9 : n ≤ 1000000) (hk : I64 k) (hs : Sees w A (vB l)) (ht : TabC w) (h0 : (nmT l k).2.2 ≠ 0) :
    Calls Tryd.prog 88 #[.slice A n c, .int .i64 k] w fun e w' => e = .returned (quV (pairT l k)) ∧ Below w.heap.size w w' := by
  have HN := fun (w' : World) (hb : Below w.heap.size w w') => name_any l A n c k w' hn hnc hm hk (hs.below hb) (ht.below hb).toN
  have hv : pairT l k = noQ (nmT l k).2.2 := by unfold pairT; rw [if_pos h0]
  rw [readV_tr, nmT_err l k h0] at HN
  rw [hv]
  obtain ⟨e0, he0⟩ : ∃ e0, (nmT l k).2.2 = e0 := ⟨_, rfl⟩
  rw [he0] at HN h0 ⊢
  rw [trV_no] at HN
  rw [quV_no]
  have t1 : (e0 != 0) = true := by simpa using h0
  have KN := Lib.hid HN
  clear hs HN h0 he0 hn hv ht
  have B0 := (Below.refl w.heap.size w).alloc (Nat.le_refl _) (.cells #[.string ⟨#[]⟩, .string ⟨#[]⟩] 74)
  have NP := Lib.hid (newPair w)
  go_enter Tryd.func88, Tryd.ntmps88
  go_wp2_with fail
  refine (KN.out _ B0).mono ?_
  rintro e w1 ⟨rfl, hb1⟩
  obtain ⟨x0, x1, v0, v1, B1⟩ := NP.out w1 hb1
  clear hb1 B0
  go_wp2_with fail
  (try simp only [Exit.inBlock, Exit.then])
  obtain ⟨c0, c1⟩ := two_cells (.string ⟨#[]⟩) (.string ⟨#[]⟩) x0 x1
  refine bodyPost_ret (by simp [results, Tryd.results88, go_sem, c0, c1]; first | rfl | done) rfl ⟨rfl, (B1.setCell (Nat.le_refl _) _).setCell (Nat.le_refl _) _⟩
set_option maxHeartbeats 4000000 in
theorem pair_any (l : List UInt8) (A : Option Addr) (n c : Nat) (k : Int) (w : World) (hn : l.length = n) (hnc : n ≤ c) (hm : c ≤ 9223372036854775807) (hn9 : n ≤ 1000000) (hk : I64 k) (hs : Sees w A (vB l)) (ht : TabC w) (hk0 : 0 ≤ k) (hkn : k ≤ (n : Int)) :
    Calls Tryd.prog 88 #[.slice A n c, .int .i64 k] w fun e w' => e = .returned (quV (pairT l k)) ∧ Below w.heap.size w w' := by
  by_cases h0 : (nmT l k).2.2 = 0
  rotate_left
  · exact pair_bad l A n c k w hn hnc hm hn9 hk hs ht h0
  obtain ⟨j, rfl⟩ : ∃ j : Nat, k = j := ⟨k.toNat, by omega⟩
  have HN := fun (w' : World) (hb : Below w.heap.size w w') => name_any l A n c (j : Int) w' hn hnc hm hk (hs.below hb) (ht.below hb).toN
  obtain ⟨z, hz, hjz, hzl, _⟩ := nmT_go (by omega) h0
  obtain ⟨s, hsd⟩ : ∃ s, (l.drop j).take (z - j) = s := ⟨_, rfl⟩
  rw [hsd] at hz
  rw [readV_tr, hz] at HN
  unfold pairT
  rw [hz, if_neg (by simp)]
  simp only [Int.toNat_natCast]
  have hbl := blkN_le l l.length z hzl
  have H2 := fun (w' : World) (hb : Below w.heap.size w w') => blanks_any l A n c (z : Int) w' hn hnc (by omega) ⟨by omega, by omega⟩ (hs.below hb)
  rw [blkV_in hzl] at H2
  obtain ⟨q, hq⟩ : ∃ q, blkN l l.length z = q := ⟨_, rfl⟩
  rw [hq] at H2 hbl ⊢
  have K2 := Lib.hid H2
  unfold trV at HN
  have KN := Lib.hid HN
  by_cases hqn : q = l.length
  · rw [if_pos (.inl hqn), quV_no]
    rw [hn] at hqn
    subst hqn
    clear hs HN H2 h0 hz hq hbl hzl hn hsd ht hk0 hkn hjz
    have B0 := (Below.refl w.heap.size w).alloc (Nat.le_refl _) (.cells #[.string ⟨#[]⟩, .string ⟨#[]⟩] 74)
    have NP := Lib.hid (newPair w)
    go_enter Tryd.func88, Tryd.ntmps88
    go_wp2_with fail
    refine (KN.out _ B0).mono ?_
    rintro e w1 ⟨rfl, hb1⟩
    obtain ⟨x0, x1, v0, v1, B1⟩ := NP.out w1 hb1
    clear hb1 B0
    go_wp2_with fail
    refine (K2.out w1 B1).mono ?_
    rintro e w2 ⟨rfl, rfl⟩
    go_wp2_with fail
    (try simp only [Exit.inBlock, Exit.then])
    obtain ⟨c0, c1⟩ := two_cells (.string ⟨#[]⟩) (.string ⟨#[]⟩) x0 x1
    refine bodyPost_ret (by simp [results, Tryd.results88, go_sem, c0, c1]; first | rfl | done) rfl ⟨rfl, (B1.setCell (Nat.le_refl _) _).setCell (Nat.le_refl _) _⟩
  obtain ⟨ad, rfl, hcell⟩ := hs.byte (k := q) (by omega)
  obtain ⟨d, hd⟩ : ∃ d, byteAt l q = d := ⟨_, rfl⟩
  have hd9 := byteAt_lt l q
  rw [hd] at hcell hd9 ⊢
  have hqn' : q ≠ n := by omega
  have hql : q < n := by omega
  have hC := fun (w' : World) (hb : Below w.heap.size w w') => cell_later hb hcell
  have KC := Lib.hid hC
  by_cases h61 : d = 61
  rotate_left
  · rw [if_pos (.inr h61), quV_no]
    have t1 : ((d : Int) != 61) = true := by simp; omega
    clear hs HN H2 h0 hz hq hbl hzl hn hsd ht hcell hd hC hqn h61 hk0 hkn hjz
    have B0 := (Below.refl w.heap.size w).alloc (Nat.le_refl _) (.cells #[.string ⟨#[]⟩, .string ⟨#[]⟩] 74)
    have NP := Lib.hid (newPair w)
    go_enter Tryd.func88, Tryd.ntmps88
    go_wp2_with fail
    refine (KN.out _ B0).mono ?_
    rintro e w1 ⟨rfl, hb1⟩
    obtain ⟨x0, x1, v0, v1, B1⟩ := NP.out w1 hb1
    have hcell1 := KC.out w1 B1
    clear hb1 B0
    go_wp2_with fail
    refine (K2.out w1 B1).mono ?_
    rintro e w2 ⟨rfl, rfl⟩
    go_wp2_with fail
    (try simp only [Exit.inBlock, Exit.then])
    obtain ⟨c0, c1⟩ := two_cells (.string ⟨#[]⟩) (.string ⟨#[]⟩) x0 x1
    refine bodyPost_ret (by simp [results, Tryd.results88, go_sem, c0, c1]; first | rfl | done) rfl ⟨rfl, (B1.setCell (Nat.le_refl _) _).setCell (Nat.le_refl _) _⟩
  rw [if_neg (by omega)]
  subst h61
  have H3 := fun (w' : World) (hb : Below w.heap.size w w') => blanks_any l (some ad) n c ((q : Int) + 1) w' hn hnc (by omega) ⟨by omega, by omega⟩ (hs.below hb)
  have e1 : (q : Int) + 1 = ((q + 1 : Nat) : Int) := by omega
  have H3' : ∀ w', Below w.heap.size w w' → _ := H3
  rw [show blkV l ((q : Int) + 1) = (blkN l l.length (q + 1) : Nat) from by rw [e1, blkV_in (by omega)]] at H3
  have hbp := blkN_le l l.length (q + 1) (by omega)
  obtain ⟨p, hp⟩ : ∃ p, blkN l l.length (q + 1) = p := ⟨_, rfl⟩
  rw [hp] at H3 hbp ⊢
  have H4 := fun (w' : World) (hb : Below w.heap.size w w') => litValue_any l (some ad) n c (p : Int) w' hn hnc hm ⟨by omega, by omega⟩ hn9 (hs.below hb) (ht.below hb)
  have K3 := Lib.hid H3
  clear H3'
  by_cases h4 : (strT 60 l (p : Int)).2.2 = 0
  rotate_left
  · rw [if_pos h4, quV_no]
    rw [strT_err _ _ _ h4] at H4
    obtain ⟨e0, he0⟩ : ∃ e0, (strT 60 l (p : Int)).2.2 = e0 := ⟨_, rfl⟩
    rw [he0] at H4 h4 ⊢
    rw [trV_no] at H4
    have t1 : (e0 != 0) = true := by simpa using h4
    have K4 := Lib.hid H4
    clear hs HN H2 h0 hz hq hbl hzl hn hsd ht hcell hd hC hqn hk0 hkn hjz H3 H4 hbp hp e1 h4 he0
    have B0 := (Below.refl w.heap.size w).alloc (Nat.le_refl _) (.cells #[.string ⟨#[]⟩, .string ⟨#[]⟩] 74)
    have NP := Lib.hid (newPair w)
    go_enter Tryd.func88, Tryd.ntmps88
    go_wp2_with fail
    refine (KN.out _ B0).mono ?_
    rintro e w1 ⟨rfl, hb1⟩
    obtain ⟨x0, x1, v0, v1, B1⟩ := NP.out w1 hb1
    have hcell1 := KC.out w1 B1
    clear B0
    go_wp2_with fail
    refine (K2.out w1 B1).mono ?_
    rintro e w2 ⟨rfl, rfl⟩
    go_wp2_with fail
    refine (K3.out w1 B1).mono ?_
    rintro e w2 ⟨rfl, rfl⟩
    go_wp2_with fail
    refine (K4.out w1 B1).mono ?_
    rintro e w2 ⟨rfl, hb2⟩
    clear x0 x1 v0 v1 B1 hcell1
    obtain ⟨x0, x1, v0, v1, B1⟩ := NP.out w2 (hb1.trans (hb2.mono hb1.size))
    clear hb1 hb2
    go_wp2_with fail
    (try simp only [Exit.inBlock, Exit.then])
    obtain ⟨c0, c1⟩ := two_cells (.string ⟨#[]⟩) (.string ⟨#[]⟩) x0 x1
    refine bodyPost_ret (by simp [results, Tryd.results88, go_sem, c0, c1]; first | rfl | done) rfl ⟨rfl, (B1.setCell (Nat.le_refl _) _).setCell (Nat.le_refl _) _⟩
  rw [if_neg (by simpa using h4)]
  obtain ⟨T, hT⟩ : ∃ T, strT 60 l (p : Int) = T := ⟨_, rfl⟩
  obtain ⟨v, y, e0⟩ := T
  rw [hT] at H4 h4 ⊢
  unfold trV at H4
  simp only at h4
  subst h4
  have K4 := Lib.hid H4
  clear hs HN H2 h0 hz hq hbl hzl hn hsd ht hcell hd hC hqn hk0 hkn hjz H3 H4 hbp hp e1 hT
  have B0 := (Below.refl w.heap.size w).alloc (Nat.le_refl _) (.cells #[.string ⟨#[]⟩, .string ⟨#[]⟩] 74)
  have NP := Lib.hid (newPair w)
  go_enter Tryd.func88, Tryd.ntmps88
  go_wp2_with fail
  refine (KN.out _ B0).mono ?_
  rintro e w1 ⟨rfl, hb1⟩
  obtain ⟨x0, x1, v0, v1, B1⟩ := NP.out w1 hb1
  have hcell1 := KC.out w1 B1
  clear B0
  go_wp2_with fail
  refine (K2.out w1 B1).mono ?_
  rintro e w2 ⟨rfl, rfl⟩
  go_wp2_with fail
  refine (K3.out w1 B1).mono ?_
  rintro e w2 ⟨rfl, rfl⟩
  go_wp2_with fail
  refine (K4.out w1 B1).mono ?_
  rintro e w2 ⟨rfl, hb2⟩
  clear x0 x1 v0 v1 B1 hcell1
  obtain ⟨x0, x1, v0, v1, B1⟩ := NP.out w2 (hb1.trans (hb2.mono hb1.size))
  clear hb1 hb2
  go_wp2_with fail
  (try simp only [Exit.inBlock, Exit.then])
  obtain ⟨c0, c1⟩ := two_cells (strV s) (strV v) x0 x1
  refine bodyPost_ret (by simp [results, Tryd.results88, go_sem, c0, c1]; first | rfl | done) rfl ⟨rfl, (B1.setCell (Nat.le_refl _) _).setCell (Nat.le_refl _) _⟩
end Go.Proofs.YtcpdllghlbdhiaaDoor
