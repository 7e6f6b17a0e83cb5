/- Public identifiers between quotes; the walk of LitReads. -/
import Derived.Test.YtgbbccfoceifnaaDoorLith
import Derived.Test.YtgbbccfoceifnaaDoorPub
namespace Go.Proofs.YtgbbccfoceifnaaDoor
open Go.ChangeShapes Go.WideShapes Go.ChangeAt Go.RowKit
set_option linter.unusedVariables false
set_option maxRecDepth 100000

def pubE (s : List UInt8) : Int := if pubB s = true then 0 else 7
def pubT (l : List UInt8) (k : Int) : Trip := chkT [pubE] (quoT l k)
theorem enters_pub : Enters 68 := fun _ _ => by kernel_rfl
set_option maxHeartbeats 1000000 in
theorem public1_any (s : List UInt8) (w : World) (hs : s.length ≤ 1000000) (ht : Tables w) :
    Calls Tryd.prog 68 #[strV s] w fun e w' => e = .returned (.int .i64 (pubE s)) ∧ Below w.heap.size w w' := by
  obtain ⟨B, cap, W1, hrun, hc1, hc2, hb1, hBl, hBw, hs1⟩ := bytes_made s w hs
  have H := pubAll_any s (some ⟨B, 0, none⟩) s.length cap W1 rfl hc1 hc2 hs hs1 (ht.below hb1)
  unfold pubE
  cases hq : pubB s with
  | true =>
    rw [hq] at H
    have HH := Lib.hid H
    rw [if_pos rfl]
    clear H hs1 hq ht
    go_enter Tryd.func68, Tryd.ntmps68
    go_wp2_with fail
    refine HH.out.mono ?_
    rintro e w2 ⟨rfl, hb2⟩
    go_wp2_with fail
    go_ret
    exact ⟨rfl, hb1.trans (hb2.mono hb1.size)⟩
  | false =>
    rw [hq] at H
    have HH := Lib.hid H
    rw [if_neg (by simp)]
    clear H hs1 hq ht
    go_enter Tryd.func68, Tryd.ntmps68
    go_wp2_with fail
    refine HH.out.mono ?_
    rintro e w2 ⟨rfl, hb2⟩
    go_wp2_with fail
    go_ret
    exact ⟨rfl, hb1.trans (hb2.mono hb1.size)⟩
theorem checked_pub (l : List UInt8) (A : Option Addr) (n c : Nat) (k : Int) (w : World)
    (hn : l.length = n) (hnc : n ≤ c) (hm : c ≤ 9223372036854775807) (hk : I64 k) (hn9 : n ≤ 1000000) (hs : Sees w A (vB l)) (ht : Tables w) :
    Calls Tryd.prog 64 #[.slice A n c, .int .i64 k, .slice (some ⟨w.heap.size, 0, none⟩) 1 1] (w.alloc (.cells #[.func (.func 68) #[] #[]] 84))
      fun e w' => e = .returned (trV (pubT l k)) ∧ Below w.heap.size w w' := by
  obtain ⟨W, hW⟩ : ∃ W, w.alloc (.cells #[.func (.func 68) #[] #[]] 84) = W := ⟨_, rfl⟩
  have hb : Below w.heap.size w W := hW ▸ (Below.refl _ w).alloc (Nat.le_refl _) _
  have hS : Sees W (some ⟨w.heap.size, 0, none⟩) (([(68, #[], pubE)] : List Chk).map chkV) := by
    rw [← hW]
    exact sees_lit w [.func (.func 68) #[] #[]] 84 (0, 0)
  rw [hW]
  have h := checked_any [(68, #[], pubE)] l A (some ⟨w.heap.size, 0, none⟩) n c 1 1 k W hn hnc hm hk hn9 (hs.below hb) rfl (by omega) hS (fun x hx => by
    obtain rfl : x = (68, #[], pubE) := by simpa using hx
    exact ⟨enters_pub, fun s w' hs' hb' => public1_any s w' hs' ((ht.below hb).below hb')⟩)
  exact h.mono fun e w' ⟨he, hb'⟩ => ⟨he, hb.trans (hb'.mono hb.size)⟩
set_option maxHeartbeats 1000000 in
theorem litPublic_any (l : List UInt8) (A : Option Addr) (n c : Nat) (k : Int) (w : World)
    (hn : l.length = n) (hnc : n ≤ c) (hm : c ≤ 9223372036854775807) (hk : I64 k) (hn9 : n ≤ 1000000) (hs : Sees w A (vB l)) (ht : Tables w) :
    Calls Tryd.prog 21 #[.slice A n c, .int .i64 k] w fun e w' => e = .returned (trV (pubT l k)) ∧ Below w.heap.size w w' := by
  have H := checked_pub l A n c k w hn hnc hm hk hn9 hs ht
  obtain ⟨s, y, e0, hv⟩ : ∃ s y e, trV (pubT l k) = .tuple #[.string s, .int .i64 y, .int .i64 e] := ⟨_, _, _, rfl⟩
  rw [hv] at H ⊢
  have HH := Lib.hid H
  clear H hv hs ht hn
  go_enter Tryd.func21, Tryd.ntmps21
  go_wp2_with fail
  refine HH.out.mono ?_
  rintro e w1 ⟨rfl, hb⟩
  go_wp2_with fail
  go_ret3
  exact ⟨rfl, hb⟩

set_option maxHeartbeats 2000000 in
theorem rpublic_any (l : List UInt8) (A : Option Addr) (n c : Nat) (k : Int) (w : World)
    (hn : l.length = n) (hnc : n ≤ c) (hm : c ≤ 9223372036854775807) (hk : I64 k) (hn9 : n ≤ 1000000) (hs : Sees w A (vB l)) :
    Calls Tryd.prog 22 #[.slice A n c, .int .i64 k] w fun e w' => e = .returned (trV (pubT l k)) ∧ Below w.heap.size w w' := by
  have HQ := rquoted_any l A n c k w hn hnc hm hk hn9 hs
  have hqe := quoT_err l k
  have hql := quoT_len l k
  unfold pubT chkT
  obtain ⟨s, y, e0, hq⟩ : ∃ s y e0, quoT l k = (s, y, e0) := ⟨_, _, _, rfl⟩
  rw [hq] at HQ hqe hql ⊢
  simp only at hqe hql ⊢
  by_cases h0 : e0 = 0
  · subst h0
    rw [if_neg (by simp)]
    unfold trV at HQ
    have H := Lib.hid HQ
    have hsl : s.length ≤ 1000000 := by omega
    have HP := fun (w' : World) (A' : Option Addr) (cap : Nat) (hs' : Sees w' A' (vB s)) => rpubAll_any s A' s.length cap w' rfl hsl hs'
    cases hb : pubB s with
    | true =>
      have hc : chk [pubE] s = 0 := by
        have hw : pubE s = 0 := by unfold pubE; rw [hb, if_pos rfl]
        show (if pubE s ≠ 0 then pubE s else (0 : Int)) = 0
        rw [hw, if_neg (by omega)]
      rw [hc, if_neg (by omega)]
      rw [hb] at HP
      have KP := Lib.hid HP
      unfold trV
      clear HQ HP hqe hql hq hs hn hb hc
      go_enter Tryd.func22, Tryd.ntmps22
      go_wp2_with fail
      refine H.out.mono ?_
      rintro e w1 ⟨rfl, hb1⟩
      obtain ⟨B, cap, W1, hrun, hc1, hc2, hbm, hBl, hBw, hs1⟩ := bytes_made s w1 hsl
      have hb2 := hb1.trans (hbm.mono hb1.size)
      have HS1 := Lib.hid hs1
      clear hs1
      go_wp2_with fail
      refine (KP.out W1 _ cap HS1.out).mono ?_
      rintro e w2 ⟨rfl, hb3⟩
      go_wp2_with fail
      go_ret3
      exact ⟨rfl, hb2.trans (hb3.mono hb2.size)⟩
    | false =>
      have hc : chk [pubE] s = 7 := by
        have hw : pubE s = 7 := by unfold pubE; rw [hb, if_neg (by simp)]
        show (if pubE s ≠ 0 then pubE s else (0 : Int)) = 7
        rw [hw, if_pos (by omega)]
      rw [hc, if_pos (by omega), trV_no]
      rw [hb] at HP
      have KP := Lib.hid HP
      clear HQ HP hqe hql hq hs hn hb hc
      go_enter Tryd.func22, Tryd.ntmps22
      go_wp2_with fail
      refine H.out.mono ?_
      rintro e w1 ⟨rfl, hb1⟩
      obtain ⟨B, cap, W1, hrun, hc1, hc2, hbm, hBl, hBw, hs1⟩ := bytes_made s w1 hsl
      have hb2 := hb1.trans (hbm.mono hb1.size)
      have HS1 := Lib.hid hs1
      clear hs1
      go_wp2_with fail
      refine (KP.out W1 _ cap HS1.out).mono ?_
      rintro e w2 ⟨rfl, hb3⟩
      go_wp2_with fail
      go_ret3
      exact ⟨rfl, hb2.trans (hb3.mono hb2.size)⟩
  · rw [if_pos h0]
    have hqe := hqe h0
    rw [hqe] at HQ
    rw [trV_no] at HQ ⊢
    have t1 : (e0 != 0) = true := by simpa using h0
    have H := Lib.hid HQ
    clear HQ hqe hql hq hs hn h0
    go_enter Tryd.func22, Tryd.ntmps22
    go_wp2_with fail
    refine H.out.mono ?_
    rintro e w1 ⟨rfl, hb1⟩
    go_wp2_with fail
    go_ret3
    exact ⟨rfl, hb1⟩

set_option maxHeartbeats 8000000 in
theorem litReads_any (l : List UInt8) (A : Option Addr) (n c : Nat) (k : Int) (w : World) (hn : l.length = n) (hnc : n ≤ c) (hcm : c ≤ maxLen) (hk : I64 k) (hs : Sees w A (vB l)) (ht : Tables w) :
    Calls Tryd.prog 3 #[.slice A n c, .int .i64 k] w fun e w' => e = .returned (.bool true) ∧ Below w.heap.size w w' := by
  unfold maxLen at hcm
  have HL := Lib.hid (fun (w' : World) (hb : Below w.heap.size w w') => live07_any w' (ht.below hb).toTabC)
  by_cases hbig : 400 < n
  · clear hs
    go_enter Tryd.func3, Tryd.ntmps3
    go_wp2_with fail
    refine (HL.out w (Below.refl _ _)).mono ?_
    rintro e w1 ⟨rfl, hb⟩
    go_wp2_with fail
    go_ret
    exact ⟨rfl, hb⟩
  · have hI : ∀ w' : World, Below w.heap.size w w' → Sees w' A (vB l) ∧ Tables w' := fun w' hb => ⟨hs.below hb, ht.below hb⟩
    have H1 := fun (w' : World) (hb : Below w.heap.size w w') => quoted_any l A n c k w' hn hnc hcm hk (by omega) (hI w' hb).1
    have H2 := fun (w' : World) (hb : Below w.heap.size w w') => rquoted_any l A n c k w' hn hnc hcm hk (by omega) (hI w' hb).1
    have H3 := fun (w' : World) (hb : Below w.heap.size w w') => litValue_any l A n c k w' hn hnc hcm hk (by omega) (hI w' hb).1 (hI w' hb).2.toTabC
    have H4 := fun (w' : World) (hb : Below w.heap.size w w') => rstrict_any 60 (by omega) l A n c k w' hn hnc hcm hk (by omega) (hI w' hb).1 (hI w' hb).2.toN
    have H5 := fun (w' : World) (hb : Below w.heap.size w w') => litEntity_any l A n c k w' hn hnc hcm hk (by omega) (hI w' hb).1 (hI w' hb).2.toTabC
    have H6 := fun (w' : World) (hb : Below w.heap.size w w') => rstrict_any 37 (by omega) l A n c k w' hn hnc hcm hk (by omega) (hI w' hb).1 (hI w' hb).2.toN
    have H7 := fun (w' : World) (hb : Below w.heap.size w w') => litPublic_any l A n c k w' hn hnc hcm hk (by omega) (hI w' hb).1 (hI w' hb).2
    have H8 := fun (w' : World) (hb : Below w.heap.size w w') => rpublic_any l A n c k w' hn hnc hcm hk (by omega) (hI w' hb).1
    obtain ⟨s1, y1, e1, h1⟩ : ∃ s y e, trV (quoT l k) = .tuple #[.string s, .int .i64 y, .int .i64 e] := ⟨_, _, _, rfl⟩
    obtain ⟨s2, y2, e2, h2⟩ := strT_tup 60 l k
    obtain ⟨s3, y3, e3, h3⟩ := strT_tup 37 l k
    obtain ⟨s4, y4, e4, h4⟩ : ∃ s y e, trV (pubT l k) = .tuple #[.string s, .int .i64 y, .int .i64 e] := ⟨_, _, _, rfl⟩
    rw [h1] at H1 H2
    rw [h2] at H3 H4
    rw [h3] at H5 H6
    rw [h4] at H7 H8
    have K1 := Lib.hid H1
    have K2 := Lib.hid H2
    have K3 := Lib.hid H3
    have K4 := Lib.hid H4
    have K5 := Lib.hid H5
    have K6 := Lib.hid H6
    have K7 := Lib.hid H7
    have K8 := Lib.hid H8
    clear H1 H2 H3 H4 H5 H6 H7 H8 h1 h2 h3 h4 hs hn hI ht
    go_enter Tryd.func3, Tryd.ntmps3
    go_wp2_with fail
    refine (K1.out w (Below.refl _ _)).mono ?_
    rintro e w1 ⟨rfl, hb1⟩
    go_wp2_with fail
    refine (K2.out w1 hb1).mono ?_
    rintro e w2 ⟨rfl, b2⟩
    have hb2 := hb1.trans (b2.mono hb1.size)
    go_wp2_with fail
    refine (K3.out w2 hb2).mono ?_
    rintro e w3 ⟨rfl, b3⟩
    have hb3 := hb2.trans (b3.mono hb2.size)
    go_wp2_with fail
    refine (K4.out w3 hb3).mono ?_
    rintro e w4 ⟨rfl, b4⟩
    have hb4 := hb3.trans (b4.mono hb3.size)
    go_wp2_with fail
    refine (K5.out w4 hb4).mono ?_
    rintro e w5 ⟨rfl, b5⟩
    have hb5 := hb4.trans (b5.mono hb4.size)
    go_wp2_with fail
    refine (K6.out w5 hb5).mono ?_
    rintro e w6 ⟨rfl, b6⟩
    have hb6 := hb5.trans (b6.mono hb5.size)
    go_wp2_with fail
    refine (K7.out w6 hb6).mono ?_
    rintro e w7 ⟨rfl, b7⟩
    have hb7 := hb6.trans (b7.mono hb6.size)
    go_wp2_with fail
    refine (K8.out w7 hb7).mono ?_
    rintro e w8 ⟨rfl, b8⟩
    have hb8 := hb7.trans (b8.mono hb7.size)
    go_wp2_with fail
    refine (HL.out w8 hb8).mono ?_
    rintro e w9 ⟨rfl, b9⟩
    go_wp2_with fail
    go_ret
    exact ⟨rfl, hb8.trans (b9.mono hb8.size)⟩
end Go.Proofs.YtgbbccfoceifnaaDoor
