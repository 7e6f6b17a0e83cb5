/- Names: what is read at a place; Name and Plain. -/
import Derived.Test.YtdmfladcldkmeaaDoorNamb
namespace Go.Proofs.YtdmfladcldkmeaaDoor
open Go.ChangeShapes Go.WideShapes Go.ChangeAt Go.RowKit
set_option linter.unusedVariables false
set_option maxRecDepth 100000

def readV (l : List UInt8) (k : Int) (p q : Int → Bool) : Value :=
  if k < 0 ∨ (l.length : Int) < k then .tuple #[.string ⟨#[]⟩, .int .i64 0, .int .i64 3]
  else if endN l q l.length p k.toNat = k.toNat then .tuple #[.string ⟨#[]⟩, .int .i64 0, .int .i64 7]
  else if 1024 < endN l q l.length p k.toNat - k.toNat then .tuple #[.string ⟨#[]⟩, .int .i64 0, .int .i64 11]
  else .tuple #[.string ⟨((l.drop k.toNat).take (endN l q l.length p k.toNat - k.toNat)).toArray⟩, .int .i64 (endN l q l.length p k.toNat : Nat), .int .i64 0]
theorem readV_out {l : List UInt8} {k : Int} {p q : Int → Bool} (h : k < 0 ∨ (l.length : Int) < k) : readV l k p q = .tuple #[.string ⟨#[]⟩, .int .i64 0, .int .i64 3] := by rw [readV, if_pos h]
theorem readV_none {l : List UInt8} {k : Nat} {p q : Int → Bool} (h : k ≤ l.length) (hz : endN l q l.length p k = k) : readV l k p q = .tuple #[.string ⟨#[]⟩, .int .i64 0, .int .i64 7] := by
  rw [readV, if_neg (by omega), Int.toNat_natCast, if_pos hz]
theorem readV_long {l : List UInt8} {k z : Nat} {p q : Int → Bool} (h : k ≤ l.length) (hz : endN l q l.length p k = z) (h1 : k < z) (h2 : 1024 < z - k) : readV l k p q = .tuple #[.string ⟨#[]⟩, .int .i64 0, .int .i64 11] := by
  rw [readV, if_neg (by omega), Int.toNat_natCast, hz, if_neg (by omega), if_pos h2]
theorem readV_ok {l : List UInt8} {k z : Nat} {p q : Int → Bool} (h : k ≤ l.length) (hz : endN l q l.length p k = z) (h1 : k < z) (h2 : z - k ≤ 1024) : readV l k p q = .tuple #[.string ⟨((l.drop k).take (z - k)).toArray⟩, .int .i64 (z : Int), .int .i64 0] := by
  rw [readV, if_neg (by omega), Int.toNat_natCast, hz, if_neg (by omega), if_neg (by omega)]
set_option maxHeartbeats 1000000 in
theorem read_any (l : List UInt8) (A : Option Addr) (n c : Nat) (k : Int) (w : World) (F G : Nat) (cf cg : Array Value) (p q : Int → Bool)
    (hn : l.length = n) (hnc : n ≤ c) (hm : c ≤ 9223372036854775807) (hk : I64 k) (hs : Sees w A (vB l))
    (hF : Enters F) (hG : Enters G) (tF : Tells F cf p w.heap.size w) (tG : Tells G cg q w.heap.size w) :
    Calls Tryd.prog 115 #[.agg #[.func (.func F) #[] cf, .func (.func G) #[] cg], .slice A n c, .int .i64 k] w fun e w' =>
      e = .returned (readV l k p q) ∧ Below w.heap.size w w' := by
  have hkl := hk.1
  have hkh := hk.2
  by_cases hout : k < 0 ∨ (n : Int) < k
  · rw [readV_out (by rw [hn]; exact hout)]
    rcases hout with h0 | h0
    all_goals
      go_enter Tryd.func115, Tryd.ntmps115
      go_wp2_with fail
      go_ret3
      exact ⟨rfl, (Below.refl _ _).alloc (Nat.le_refl _) _⟩
  · obtain ⟨j, rfl⟩ : ∃ j : Nat, k = j := ⟨k.toNat, by omega⟩
    have hj : j ≤ n := by omega
    have H := fun (w' : World) (hb : Below w.heap.size w w') => end_any l A n c j w' F G cf cg p q hn hnc hm hj (hs.below hb) hF hG (fun r w'' hb' => tF r w'' (hb.trans (hb'.mono hb.size))) (fun r w'' hb' => tG r w'' (hb.trans (hb'.mono hb.size)))
    have hle := endN_le l q n p j (by omega)
    obtain ⟨z, hz⟩ : ∃ z, endN l q n p j = z := ⟨_, rfl⟩
    rw [hz] at H hle
    rw [hn] at hle
    subst hn
    have HE := Lib.hid (H (w.alloc (.cells #[.func (.func F) #[] cf, .func (.func G) #[] cg] 153)) ((Below.refl _ _).alloc (Nat.le_refl _) _))
    clear H
    rcases Nat.lt_or_ge j z with hjz | hjz
    · obtain ⟨ad, rfl, hcell⟩ := hs.byte (k := j) (by omega)
      by_cases hlong : 1024 < z - j
      · rw [readV_long hj hz hjz hlong]
        clear hz hcell
        go_enter Tryd.func115, Tryd.ntmps115
        go_wp2_with fail
        refine HE.out.mono ?_
        rintro e w1 ⟨rfl, hb⟩
        go_wp2_with fail
        go_ret3
        exact ⟨rfl, ((Below.refl _ _).alloc (Nat.le_refl _) _).trans (hb.mono (by simp))⟩
      · rw [readV_ok hj hz hjz (by omega)]
        have hsd : Sees w (some (ad.add j)) (vB ((l.drop j).take (z - j))) := by
          have h1 := hs.drop (k := j) (cap := c) (by rw [vB_len]; exact hnc)
          rw [if_neg (by omega), ← vB_drop] at h1
          have h2 := h1.take (z - j)
          rw [← vB_take] at h2
          exact h2
        clear hz hcell
        go_enter Tryd.func115, Tryd.ntmps115
        go_wp2_with fail
        refine HE.out.mono ?_
        rintro e w1 ⟨rfl, hb⟩
        have kc := conv_sees w1 (some (ad.add j)) (z - j) (c - j) _ (by simp; omega) (hsd.below (((Below.refl _ _).alloc (Nat.le_refl _) _).trans (hb.mono (by simp))))
        go_wp2_with fail
        go_ret3
        exact ⟨rfl, ((Below.refl _ _).alloc (Nat.le_refl _) _).trans (hb.mono (by simp))⟩
    · obtain rfl : z = j := by omega
      rw [readV_none hj hz]
      clear hz
      go_enter Tryd.func115, Tryd.ntmps115
      go_wp2_with fail
      refine HE.out.mono ?_
      rintro e w1 ⟨rfl, hb⟩
      go_wp2_with fail
      go_ret3
      exact ⟨rfl, ((Below.refl _ _).alloc (Nat.le_refl _) _).trans (hb.mono (by simp))⟩

theorem enters_start : Enters 142 := fun _ _ => by kernel_rfl
theorem enters_char : Enters 143 := fun _ _ => by kernel_rfl
theorem enters_plain : Enters 196 := fun _ _ => by kernel_rfl
theorem tells_start {p : Nat} {w : World} (ht : TabN w) (hp : w.heap.size ≤ p) : Tells 142 #[] startN p w :=
  fun r w' hb => nameStart_n r w' (ht.low hp hb)
theorem tells_char {p : Nat} {w : World} (ht : TabN w) (hp : w.heap.size ≤ p) : Tells 143 #[] charN p w :=
  fun r w' hb => nameChar_n r w' (ht.low hp hb)
theorem tells_plain {F b p : Nat} {f : Int → Bool} {w : World} (hF : Enters F) (hbp : b < p) (hc : w.cell? ⟨b, 0, none⟩ = some (fn0 F)) (h : Tells F #[] f p w) :
    Tells 196 #[.pointer (some ⟨b, 0, none⟩)] (plainP f) p w :=
  fun r w' hb => plain1_any F b f r w' ((hb.cell (p := ⟨b, 0, none⟩) hbp).trans hc) hF (h r w' hb)

set_option maxHeartbeats 1000000 in
theorem name_any (l : List UInt8) (A : Option Addr) (n c : Nat) (k : Int) (w : World) (hn : l.length = n) (hnc : n ≤ c) (hm : c ≤ 9223372036854775807) (hk : I64 k) (hs : Sees w A (vB l)) (ht : TabN w) :
    Calls Tryd.prog 79 #[.slice A n c, .int .i64 k] w fun e w' => e = .returned (readV l k startN charN) ∧ Below w.heap.size w w' := by
  have HR := Lib.hid (fun (w' : World) (hb : Below w.heap.size w w') => read_any l A n c k w' _ _ _ _ _ _ hn hnc hm hk (hs.below hb) enters_start enters_char (tells_start (ht.below hb) (Nat.le_refl _)) (tells_char (ht.below hb) (Nat.le_refl _)))
  have HV : ∃ x y z, readV l k startN charN = .tuple #[x, y, z] := by
    unfold readV; split
    · exact ⟨_, _, _, rfl⟩
    · split
      · exact ⟨_, _, _, rfl⟩
      · split <;> exact ⟨_, _, _, rfl⟩
  obtain ⟨x, y, z, hv⟩ := HV
  rw [hv] at HR ⊢
  clear hv
  go_enter Tryd.func79, Tryd.ntmps79
  go_wp2_with fail
  refine (names_any w).mono ?_
  rintro e w1 ⟨rfl, hb1⟩
  go_wp2_with fail
  refine (HR.out w1 hb1).mono ?_
  rintro e w2 ⟨rfl, hb2⟩
  go_wp2_with fail
  go_ret3
  exact ⟨rfl, hb1.trans (hb2.mono hb1.size)⟩
set_option maxHeartbeats 1000000 in
theorem plainN_any (l : List UInt8) (A : Option Addr) (n c : Nat) (k : Int) (w : World) (hn : l.length = n) (hnc : n ≤ c) (hm : c ≤ 9223372036854775807) (hk : I64 k) (hs : Sees w A (vB l)) (ht : TabN w) :
    Calls Tryd.prog 197 #[.slice A n c, .int .i64 k] w fun e w' => e = .returned (readV l k (plainP startN) (plainP charN)) ∧ Below w.heap.size w w' := by
  have HR := Lib.hid (fun (w' : World) (b1 b2 : Nat) (hb : Below w.heap.size w w') (l1 : b1 < w'.heap.size) (l2 : b2 < w'.heap.size) (c1 : w'.cell? ⟨b1, 0, none⟩ = some (fn0 142)) (c2 : w'.cell? ⟨b2, 0, none⟩ = some (fn0 143)) =>
    read_any l A n c k w' _ _ _ _ _ _ hn hnc hm hk (hs.below hb) enters_plain enters_plain (tells_plain enters_start l1 c1 (tells_start (ht.below hb) (Nat.le_refl _))) (tells_plain enters_char l2 c2 (tells_char (ht.below hb) (Nat.le_refl _))))
  have HV : ∃ x y z, readV l k (plainP startN) (plainP charN) = .tuple #[x, y, z] := by
    unfold readV; split
    · exact ⟨_, _, _, rfl⟩
    · split
      · exact ⟨_, _, _, rfl⟩
      · split <;> exact ⟨_, _, _, rfl⟩
  obtain ⟨x, y, z, hv⟩ := HV
  rw [hv] at HR ⊢
  clear hv
  go_enter Tryd.func197, Tryd.ntmps197
  go_wp2_with fail
  refine (plains_any w).mono ?_
  rintro e w1 ⟨b1, b2, rfl, l1, l2, c1, c2, hb1⟩
  go_wp2_with fail
  refine (HR.out w1 b1 b2 hb1 l1 l2 c1 c2).mono ?_
  rintro e w2 ⟨rfl, hb2⟩
  go_wp2_with fail
  go_ret3
  exact ⟨rfl, hb1.trans (hb2.mono hb1.size)⟩
end Go.Proofs.YtdmfladcldkmeaaDoor
