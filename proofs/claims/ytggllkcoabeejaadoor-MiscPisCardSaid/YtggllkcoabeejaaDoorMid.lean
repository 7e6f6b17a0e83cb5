/- What stands between marks, read at a place. -/
import Derived.Test.YtggllkcoabeejaaDoorMic
namespace Go.Proofs.YtggllkcoabeejaaDoor
open Go.ChangeShapes Go.WideShapes Go.ChangeAt Go.RowKit
set_option linter.unusedVariables false
set_option maxRecDepth 100000

theorem Sees.drw {w : World} {A : Option Addr} {us : List Value} (h : Sees w A us) : Sees w.drew A us := h
def noM (e : Int) : Value := .tuple #[.string ⟨#[]⟩, .int .i64 0, .int .i64 e]
/-- What is read: the mark ahead, then up to the place that is told. -/
def mrkV (l ahead behind : List UInt8) (k : Int) (z : Int) : Value :=
  if k < 0 ∨ (l.length : Int) < k then noM 3
  else if Lib.occAt l ahead k.toNat = false then noM 7
  else if z < 0 then noM 7
  else .tuple #[strV ((l.drop (k.toNat + ahead.length)).take z.toNat), .int .i64 ((k.toNat + ahead.length + z.toNat + behind.length : Nat) : Int), .int .i64 0]
/-- A function that finds a mark in what is behind a place. -/
def Finds (F : Nat) (caps : Array Value) (l : List UInt8) (z : Int) (W : World) : Prop :=
  ∀ (w' : World) (A : Option Addr) (n c : Nat), Below W.heap.size W w' → l.length = n → n ≤ c → c ≤ 9223372036854775807 → Sees w' A (vB l) → Calls Tryd.prog F (#[.slice A n c] ++ caps) w' fun e w'' => e = .returned (.int .i64 z) ∧ Below w'.heap.size w' w''
set_option maxHeartbeats 2000000 in
theorem mread_any (ahead behind l : List UInt8) (F : Nat) (cf : Array Value) (A : Option Addr) (n c : Nat) (k z : Int) (w : World) (hn : l.length = n) (hnc : n ≤ c) (hc9 : c ≤ 9223372036854775807) (hk : I64 k) (hs : Sees w A (vB l)) (ha0 : ahead ≠ []) (ha9 : ahead.length ≤ 1000) (hb9 : behind.length ≤ 1000) (hn9 : n ≤ 1000000000)
    (hF : Enters F) (tF : k ≤ n → Finds F cf (l.drop (k.toNat + ahead.length)) z w) (hz : 0 ≤ z → z + (k.toNat + ahead.length) + 2 ≤ n) :
    Calls Tryd.prog 21 #[.agg #[strV ahead, strV behind, .func (.func F) #[] cf], .slice A n c, .int .i64 k] w fun e w' =>
      e = .returned (mrkV l ahead behind k z) ∧ Below w.heap.size w w' := by
  have hkl := hk.1
  have hkh := hk.2
  have hbA := fun (o : Obj) => (Below.refl w.heap.size w).alloc (Nat.le_refl _) o
  by_cases hout : k < 0 ∨ (n : Int) < k
  · rw [show mrkV l ahead behind k z = noM 3 by unfold mrkV; rw [if_pos (by rw [hn]; exact hout)]]
    unfold noM
    rcases hout with h0 | h0
    all_goals
      go_enter Tryd.func21, Tryd.ntmps21
      go_wp2_with fail
      go_ret3
      exact ⟨rfl, hbA _⟩
  · obtain ⟨j, rfl⟩ : ∃ j : Nat, k = j := ⟨k.toNat, by omega⟩
    have hj : j ≤ n := by omega
    rw [Int.toNat_natCast] at tF hz
    have i0 : (0 : Int) ≤ (j : Int) := by omega
    have i1 : (j : Int) ≤ (n : Int) := by omega
    have i2 : (j : Int) ≤ (c : Int) := by omega
    have hsA := hs.drop (k := j) (cap := c) (by rw [vB_len]; omega)
    rw [← vB_drop] at hsA
    have kc := fun W => run_bytes_of_string (P := Tryd.prog) W 9 22 5 ⟨ahead.toArray⟩ Tryd.underlying9 Tryd.underlying22 Tryd.underlying5
    have KP := Lib.hid (fun (w' : World) (A' B : Option Addr) (d : Nat) (h1 : Sees w' A' (vB (l.drop j))) (h2 : Sees w' B (vB ahead)) => bPrefix_any (l.drop j) ahead A' B (n - j) (c - j) ahead.length d w' (by simp; omega) rfl (by omega) h1 h2)
    have hsz := str_size ahead
    have HBA := Lib.hid (hbA (.cells #[strV ahead, strV behind, .func (.func F) #[] cf] 44))
    have ho : Lib.occAt (l.drop j) ahead 0 = Lib.occAt l ahead j := by rw [occ_drop]; rfl
    rw [ho] at KP
    by_cases hocc : Lib.occAt l ahead j = false
    · rw [show mrkV l ahead behind j z = noM 7 by unfold mrkV; rw [if_neg (by omega), Int.toNat_natCast, if_pos hocc]]
      unfold noM
      rw [hocc] at KP
      clear hz tF ho hocc
      have HS := Lib.hid (fun (w' : World) (hb : Below w.heap.size w w') => hsA.below hb)
      clear hsA
      rcases A with _ | ad
      · obtain rfl : n = 0 := by
          cases l with
          | nil => exact hn.symm
          | cons x l => obtain ⟨_, e, _⟩ := hs (by simp [vB]); cases e
        obtain rfl : j = 0 := by omega
        simp only [ite_self, Option.map_none] at HS
        clear hs
        go_enter Tryd.func21, Tryd.ntmps21
        go_wp2_with fail
        go_region_with (go_at_call 25; refine (KP.out _ _ _ _ (HS.out _ (by first | exact ((HBA.out.alloc (by simp) _).drew) | exact ((HBA.out.alloc (by simp) _).drew).drew | exact ((HBA.out.drew.alloc (by simp) _).drew))) (by first | exact made_sees _ ahead _ _ _ _ (by simp) | exact Sees.drw (made_sees _ ahead _ _ _ _ (by simp)))).mono ?_; rintro e w2 ⟨rfl, rfl⟩)
        all_goals
          go_wp2_with fail
          go_ret3
          exact ⟨rfl, by first | exact ((HBA.out.alloc (by simp) _).drew) | exact ((HBA.out.alloc (by simp) _).drew).drew | exact ((HBA.out.drew.alloc (by simp) _).drew)⟩
      · by_cases hcj : c = j
        · rw [if_pos hcj] at HS
          obtain rfl : n = j := by omega
          obtain rfl : c = n := hcj
          simp only [Nat.sub_self] at KP
          clear hs
          go_enter Tryd.func21, Tryd.ntmps21
          go_wp2_with fail
          go_region_with (go_at_call 25; refine (KP.out _ _ _ _ (HS.out _ (by first | exact ((HBA.out.alloc (by simp) _).drew) | exact ((HBA.out.alloc (by simp) _).drew).drew | exact ((HBA.out.drew.alloc (by simp) _).drew))) (by first | exact made_sees _ ahead _ _ _ _ (by simp) | exact Sees.drw (made_sees _ ahead _ _ _ _ (by simp)))).mono ?_; rintro e w2 ⟨rfl, rfl⟩)
          all_goals
            go_wp2_with fail
            go_ret3
            exact ⟨rfl, by first | exact ((HBA.out.alloc (by simp) _).drew) | exact ((HBA.out.alloc (by simp) _).drew).drew | exact ((HBA.out.drew.alloc (by simp) _).drew)⟩
        · rw [if_neg hcj] at HS
          clear hs
          go_enter Tryd.func21, Tryd.ntmps21
          go_wp2_with fail
          go_region_with (go_at_call 25; refine (KP.out _ _ _ _ (HS.out _ (by first | exact ((HBA.out.alloc (by simp) _).drew) | exact ((HBA.out.alloc (by simp) _).drew).drew | exact ((HBA.out.drew.alloc (by simp) _).drew))) (by first | exact made_sees _ ahead _ _ _ _ (by simp) | exact Sees.drw (made_sees _ ahead _ _ _ _ (by simp)))).mono ?_; rintro e w2 ⟨rfl, rfl⟩)
          all_goals
            go_wp2_with fail
            go_ret3
            exact ⟨rfl, by first | exact ((HBA.out.alloc (by simp) _).drew) | exact ((HBA.out.alloc (by simp) _).drew).drew | exact ((HBA.out.drew.alloc (by simp) _).drew)⟩
    · have hroom : j + ahead.length ≤ n := by
        by_cases h : j + ahead.length ≤ n
        · exact h
        · exact absurd (occ_short (by omega) ha0) hocc
      have hpos : 0 < ahead.length := by cases ahead with | nil => exact absurd rfl ha0 | cons _ _ => simp
      obtain ⟨ad, rfl, _⟩ := hs.byte (k := j) (by omega)
      have hcj : c ≠ j := by omega
      rw [if_neg hcj] at hsA
      have hocc' : Lib.occAt l ahead j = true := by simpa using hocc
      rw [hocc'] at KP
      have HS := Lib.hid (fun (w' : World) (hb : Below w.heap.size w w') => hsA.below hb)
      obtain ⟨p, hp⟩ : ∃ p, j + ahead.length = p := ⟨_, rfl⟩
      have hsP := hs.drop (k := p) (cap := c) (by rw [vB_len]; omega)
      rw [← vB_drop] at hsP
      rw [hp] at tF hroom
      have hz' : 0 ≤ z → z + (p : Int) + 2 ≤ (n : Int) := fun h => by have := hz h; omega
      clear hz
      have hpI : (j : Int) + (ahead.length : Int) = (p : Int) := by omega
      have hV : mrkV l ahead behind j z = if z < 0 then noM 7 else .tuple #[strV ((l.drop p).take z.toNat), .int .i64 ((p + z.toNat + behind.length : Nat) : Int), .int .i64 0] := by
        unfold mrkV
        rw [if_neg (by omega), Int.toNat_natCast, if_neg hocc, hp]
      rw [hV]
      obtain ⟨V, hVV⟩ : ∃ V, (if z < 0 then noM 7 else .tuple #[strV ((l.drop p).take z.toNat), .int .i64 ((p + z.toNat + behind.length : Nat) : Int), .int .i64 0] : Value) = V := ⟨_, rfl⟩
      rw [hVV]
      have HV := Lib.hid hVV
      clear hVV
      have TF := Lib.hid (fun (w' : World) (A' : Option Addr) (hb : Below w.heap.size w w') (h : Sees w' A' (vB (l.drop p))) => tF (by omega) w' A' (n - p) (c - p) hb (by simp; omega) (by omega) (by omega) h)
      have hF' : ∀ args w, (callFunc F args).run Tryd.prog w = .ok (.enter F args) w := hF
      have hX : (w.alloc (.cells #[strV ahead, strV behind, .func (.func F) #[] cf] 44)).heap[w.heap.size]? = some (.cells #[strV ahead, strV behind, .func (.func F) #[] cf] 44) := by
        show (w.heap.push _)[w.heap.size]? = _
        exact Array.getElem?_push_size ..
      have HX := Lib.hid hX
      have p0 : (0 : Int) ≤ (p : Int) := by omega
      have p1 : (p : Int) ≤ (n : Int) := by omega
      have p2 : (p : Int) ≤ (c : Int) := by omega
      clear hsA hX tF ho hocc hocc' hV
      go_enter Tryd.func21, Tryd.ntmps21
      go_wp2_with fail
      go_region_with (go_at_call 25; refine (KP.out _ _ _ _ (HS.out _ (by first | exact ((HBA.out.alloc (by simp) _).drew) | exact ((HBA.out.alloc (by simp) _).drew).drew | exact ((HBA.out.drew.alloc (by simp) _).drew))) (by first | exact made_sees _ ahead _ _ _ _ (by simp) | exact Sees.drw (made_sees _ ahead _ _ _ _ (by simp)))).mono ?_; rintro e w2 ⟨rfl, hw2⟩; have HW2 := Lib.hid hw2; clear hw2)
      all_goals
        have hbX : Below (w.heap.size + 1) (w.alloc (.cells #[strV ahead, strV behind, .func (.func F) #[] cf] 44)) w2 := by
          rw [HW2.out]
          first | exact (((Below.refl _ _).alloc (by simp) _).drew) | exact (((Below.refl _ _).alloc (by simp) _).drew).drew | exact (((Below.refl _ _).drew.alloc (by simp) _).drew)
        have hb2 : Below w.heap.size w w2 := HBA.out.trans (hbX.mono (by omega))
        have hX2 := (hbX.block w.heap.size (by omega)).trans HX.out
        have z0 : w2.cell? ⟨w.heap.size, 0, none⟩ = some (strV ahead) := by rw [Lib.cell_of_heap hX2]; rfl
        have z1 : w2.cell? ⟨w.heap.size, 1, none⟩ = some (strV behind) := by rw [Lib.cell_of_heap hX2]; rfl
        have z2 : w2.cell? ⟨w.heap.size, 2, none⟩ = some (.func (.func F) #[] cf) := by rw [Lib.cell_of_heap hX2]; rfl
        clear HW2 hX2
        go_wp2_with fail
        by_cases hcp : c = p
        · have hz0 : z < 0 := by
            by_cases h : z < 0
            · exact h
            · have := hz' (by omega); omega
          rw [if_pos hcp] at hsP
          obtain rfl : n = p := by omega
          obtain rfl : c = n := hcp
          simp only [Nat.sub_self] at TF
          have K2 := Lib.hid (fun (w' : World) (hb : Below w2.heap.size w2 w') => TF.out w' (some ad) (hb2.trans (hb.mono hb2.size)) (hsP.below (hb2.trans (hb.mono hb2.size))))
          clear hsP hs KP TF hz'
          go_region_with (refine (K2.out _ (by first | exact Below.refl _ _ | exact (Below.refl _ _).drew)).mono ?_; rintro e w3 ⟨rfl, b3'⟩; have b3 : Below w2.heap.size w2 w3 := (by first | exact b3' | exact Below.trans (Below.drew (Below.refl w2.heap.size w2)) b3'); clear b3')
          all_goals
            go_wp2_with fail
            go_ret3
            exact ⟨by have h := HV.out; rw [if_pos hz0] at h; subst h; rfl, hb2.trans (b3.mono hb2.size)⟩
        · rw [if_neg hcp] at hsP
          have K2 := Lib.hid (fun (w' : World) (hb : Below w2.heap.size w2 w') => TF.out w' (some (ad.add p)) (hb2.trans (hb.mono hb2.size)) (hsP.below (hb2.trans (hb.mono hb2.size))))
          by_cases hz0 : z < 0
          · clear hsP hs KP TF hz'
            go_region_with (refine (K2.out _ (by first | exact Below.refl _ _ | exact (Below.refl _ _).drew)).mono ?_; rintro e w3 ⟨rfl, b3'⟩; have b3 : Below w2.heap.size w2 w3 := (by first | exact b3' | exact Below.trans (Below.drew (Below.refl w2.heap.size w2)) b3'); clear b3')
            all_goals
              go_wp2_with fail
              go_ret3
              exact ⟨by have h := HV.out; rw [if_pos hz0] at h; subst h; rfl, hb2.trans (b3.mono hb2.size)⟩
          · obtain ⟨t, rfl⟩ : ∃ t : Nat, z = t := ⟨z.toNat, by omega⟩
            have hzt := hz' (by omega)
            have hst := hsP.take t
            rw [← vB_take] at hst
            have KC := Lib.hid (fun (w' : World) (hb : Below w.heap.size w w') => conv_sees w' (some (ad.add p)) t (c - p) ((l.drop p).take t) (by simp; omega) (hst.below hb))
            have t1 : ¬ ((t : Int) < 0) := by omega
            have t2 : (p : Int) + (t : Int) ≤ (c : Int) := by omega
            have t3 : (p : Int) ≤ (p : Int) + (t : Int) := by omega
            clear hsP hs KP TF hz' hst
            go_region_with (refine (K2.out _ (by first | exact Below.refl _ _ | exact (Below.refl _ _).drew)).mono ?_; rintro e w3 ⟨rfl, b3'⟩; have b3 : Below w2.heap.size w2 w3 := (by first | exact b3' | exact Below.trans (Below.drew (Below.refl w2.heap.size w2)) b3'); clear b3')
            all_goals
              have hb3 := hb2.trans (b3.mono hb2.size)
              have y1 := cell_later b3 z1
              have kc1 := KC.out w3 hb3
              have kc2 := fun m => KC.out (w3.drewN m) (below_drw hb3 m)
              have hszb := str_size behind
              have hw1 : IntKind.i64.wrap ((p : Int) + (t : Int)) = (p : Int) + (t : Int) := by rw [IntKind.wrap_i64]; omega
              have hw2 : IntKind.i64.wrap ((p : Int) + (t : Int) + (behind.length : Int)) = (p : Int) + (t : Int) + (behind.length : Int) := by rw [IntKind.wrap_i64]; omega
              have hw3 : ((p : Int) + (t : Int)).toNat = p + t := by omega
              have hw4 : ((p : Int)).toNat = p := by omega
              have hw5 : p + t - p = t := by omega
              go_wp2_with fail
              go_quiet (fail)
              go_wp2_with fail
              go_ret3
              refine ⟨?_, below_drw hb3 _⟩
              have h := HV.out
              rw [if_neg (by omega), Int.toNat_natCast] at h
              subst h
              congr
end Go.Proofs.YtggllkcoabeejaaDoor
