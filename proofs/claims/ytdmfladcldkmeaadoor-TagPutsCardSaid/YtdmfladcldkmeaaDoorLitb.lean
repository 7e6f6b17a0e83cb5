/- Texts between quotes: Quoted, by the program and by the document. -/
import Derived.Test.YtdmfladcldkmeaaDoorLita
import Derived.Test.YtdmfladcldkmeaaDoorByt
namespace Go.Proofs.YtdmfladcldkmeaaDoor
open Go.ChangeShapes Go.WideShapes Go.ChangeAt Go.RowKit
set_option linter.unusedVariables false
set_option maxRecDepth 100000

theorem ret_t3 {s : ByteArray} {a b e : Int} (h : a = b) : Ending.returned (.tuple #[.string s, .int .i64 a, .int .i64 e]) = .returned (.tuple #[.string s, .int .i64 b, .int .i64 e]) := by rw [h]
/-- The first place from k on where byte b stands, or the end. -/
def scanN (l : List UInt8) (b : Nat) : Nat → Nat → Nat
  | 0, k => k
  | f + 1, k => if k < l.length ∧ byteAt l k ≠ b then scanN l b f (k + 1) else k
theorem scan_out {l : List UInt8} {b : Nat} (f k : Nat) (h : l.length ≤ k ∨ byteAt l k = b) : scanN l b f k = k := by
  cases f with
  | zero => rfl
  | succ f => rw [scanN, if_neg (by omega)]
theorem scan_on {l : List UInt8} {b : Nat} (f k : Nat) (h : k < l.length) (hb : byteAt l k ≠ b) : scanN l b (f + 1) k = scanN l b f (k + 1) := by rw [scanN, if_pos ⟨h, hb⟩]
theorem scan_skip {l : List UInt8} {b : Nat} (m : Nat) : ∀ (f k : Nat), m ≤ f → k + m ≤ l.length → (∀ j, j < m → byteAt l (k + j) ≠ b) → scanN l b f k = scanN l b (f - m) (k + m) := by
  induction m with
  | zero => intro f k _ _ _; rfl
  | succ m ih =>
    intro f k hf hk h
    obtain ⟨g, rfl⟩ : ∃ g, f = g + 1 := ⟨f - 1, by omega⟩
    have h0 := h 0 (by omega)
    rw [Nat.add_zero] at h0
    rw [scan_on g k (by omega) h0, ih g (k + 1) (by omega) (by omega) (fun j hj => by have := h (j + 1) (by omega); rwa [show k + 1 + j = k + (j + 1) by omega])]
    congr 1 <;> omega
theorem byte_drop (l : List UInt8) (a j : Nat) : byteAt (l.drop a) j = byteAt l (a + j) := by unfold byteAt; rw [List.getElem?_drop]
/-- Where the search ends, and what IndexByte says. -/
theorem scan_ix {l : List UInt8} {b a : Nat} (hb : b < 256) (ha : a ≤ l.length) :
    (Lib.indexByte (l.drop a) (UInt8.ofNat b) = -1 ∧ scanN l b l.length a = l.length) ∨ ∃ i : Nat, Lib.indexByte (l.drop a) (UInt8.ofNat b) = i ∧ a + i < l.length ∧ scanN l b l.length a = a + i ∧ byteAt l (a + i) = b := by
  rcases index_cases (l.drop a) (UInt8.ofNat b) with ⟨h, hno⟩ | ⟨i, h, hi, hat, hno⟩
  · left
    refine ⟨h, ?_⟩
    rw [scan_skip (l.length - a) l.length a (by omega) (by omega) (fun j hj hbj => hno j ((at_iff (by rw [List.length_drop]; exact hj) hb).2 (by rw [byte_drop]; exact hbj)))]
    rw [show a + (l.length - a) = l.length by omega]
    exact scan_out _ _ (.inl (Nat.le_refl _))
  · right
    rw [List.length_drop] at hi
    have hbi := (at_iff (by rw [List.length_drop]; exact hi) hb).1 hat
    rw [byte_drop] at hbi
    refine ⟨i, h, by omega, ?_, hbi⟩
    rw [scan_skip i l.length a (by omega) (by omega) (fun j hj hbj => hno j hj ((at_iff (by rw [List.length_drop]; omega) hb).2 (by rw [byte_drop]; exact hbj)))]
    exact scan_out _ _ (.inr hbi)
set_option maxHeartbeats 4000000 in
theorem quoted_34 (l : List UInt8) (ad : Addr) (n c j : Nat) (w : World) (hn : l.length = n) (hnc : n ≤ c) (hm : c ≤ 9223372036854775807) (hn9 : n ≤ 1000000) (hs : Sees w (some ad) (vB l)) (hjl : j < n)
    (hcell : w.cell? (ad.add j) = some (.int .u8 34)) (hb : byteAt l j = 34) :
    Calls Tryd.prog 123 #[.slice (some ad) n c, .int .i64 (j : Int)] w fun e w' => e = .returned (trV (quoT l (j : Int))) ∧ Below w.heap.size w w' := by
  have hjne : j ≠ n := by omega
  obtain ⟨ix, hix⟩ : ∃ ix, Lib.indexByte (l.drop (j + 1)) (UInt8.ofNat 34) = ix := ⟨_, rfl⟩
  have HI : ∀ A2 w', Sees w' A2 (vB (l.drop (j + 1))) → Calls Tryd.prog 138 #[.slice A2 (n - (j + 1)) (c - (j + 1)), .int .u8 34] w' fun e w'' => e = .returned (.int .i64 ix) ∧ w' = w'' := fun A2 w' hs' => by
    have := bIndex_any w' A2 (n - (j + 1)) (c - (j + 1)) (l.drop (j + 1)) 34 (by rw [List.length_drop, hn]) hs'
    rw [show ((34 : Int).toNat.toUInt8) = UInt8.ofNat 34 from rfl, hix] at this
    exact this
  have hs2 := hs.drop (k := j + 1) (cap := c) (by rw [vB_len]; omega)
  rw [← vB_drop] at hs2
  have HS := Lib.hid hs
  by_cases hcj : c = j + 1
  · have hnil : l.drop (j + 1) = [] := List.drop_eq_nil_of_le (by omega)
    rw [hnil] at hix
    have hneg : ix = -1 := by rw [← hix]; rfl
    subst hneg
    rw [quoT_open (by omega) hb (by omega) (by rw [hnil, hix]; omega), trV_no]
    rw [if_pos hcj] at hs2
    have hq := fun m => quiet_l (HI (some ad) (w.drewN m) (hs2.drewN m))
    have hnj : n = j + 1 := by omega
    rw [hnj, hcj] at hq
    simp only [Nat.sub_self] at hq
    have HQ := Lib.hid hq
    have HNJ := Lib.hid hnj
    clear hs hs2 hq hb hn hnil HI hix
    subst hcj
    obtain rfl := HNJ.out
    go_enter Tryd.func123, Tryd.ntmps123
    go_wp2_with fail
    go_quiet ((go_at_call 138; exact HQ.out _))
    go_wp2_with fail
    go_ret3
    exact ⟨rfl, below_drw (Below.refl _ _) _⟩
  · rw [if_neg hcj] at hs2
    have hq := fun m => quiet_l (HI (some (ad.add (j + 1))) (w.drewN m) (hs2.drewN m))
    by_cases hneg : ix < 0
    · rw [quoT_open (by omega) hb (by omega) (by rw [hix]; exact hneg), trV_no]
      have HQ := Lib.hid hq
      clear hs hs2 hq hb hn HI hix
      go_enter Tryd.func123, Tryd.ntmps123
      go_wp2_with fail
      go_quiet ((go_at_call 138; exact HQ.out _))
      go_wp2_with fail
      go_ret3
      exact ⟨rfl, below_drw (Below.refl _ _) _⟩
    · obtain ⟨i, rfl⟩ : ∃ i : Nat, ix = i := ⟨ix.toNat, by omega⟩
      have hil : i < n - (j + 1) := by
        rcases index_cases (l.drop (j + 1)) (UInt8.ofNat 34) with ⟨h, _⟩ | ⟨i', h, h1, _⟩
        · omega
        · rw [List.length_drop, hn] at h1; omega
      rw [quoT_ok (by omega) hb (by omega) hix]
      have hp : Sees w (some (ad.add (j + 1))) (vB ((l.drop (j + 1)).take i)) := by rw [vB_take]; exact hs2.take i
      obtain ⟨T, hT⟩ : ∃ T, (l.drop (j + 1)).take i = T := ⟨_, rfl⟩
      rw [hT] at hp ⊢
      have hTl : T.length = i := by rw [← hT, List.length_take, List.length_drop]; omega
      have KC := Lib.hid (fun m => add1_at ad j ▸ conv_sees (w.drewN m) (some (ad.add (j + 1))) i (c - (j + 1)) T hTl (hp.drewN m))
      unfold trV
      have HQ := Lib.hid hq
      clear hs hs2 hq hb hn HI hix hp hT hTl
      go_enter Tryd.func123, Tryd.ntmps123
      go_wp2_with fail
      go_quiet ((go_at_call 138; exact HQ.out _))
      have kc := KC.out
      go_wp2_with fail
      go_ret3
      exact ⟨ret_t3 (by omega), below_drw (Below.refl _ _) _⟩

set_option maxHeartbeats 4000000 in
theorem quoted_39 (l : List UInt8) (ad : Addr) (n c j : Nat) (w : World) (hn : l.length = n) (hnc : n ≤ c) (hm : c ≤ 9223372036854775807) (hn9 : n ≤ 1000000) (hs : Sees w (some ad) (vB l)) (hjl : j < n)
    (hcell : w.cell? (ad.add j) = some (.int .u8 39)) (hb : byteAt l j = 39) :
    Calls Tryd.prog 123 #[.slice (some ad) n c, .int .i64 (j : Int)] w fun e w' => e = .returned (trV (quoT l (j : Int))) ∧ Below w.heap.size w w' := by
  have hjne : j ≠ n := by omega
  obtain ⟨ix, hix⟩ : ∃ ix, Lib.indexByte (l.drop (j + 1)) (UInt8.ofNat 39) = ix := ⟨_, rfl⟩
  have HI : ∀ A2 w', Sees w' A2 (vB (l.drop (j + 1))) → Calls Tryd.prog 138 #[.slice A2 (n - (j + 1)) (c - (j + 1)), .int .u8 39] w' fun e w'' => e = .returned (.int .i64 ix) ∧ w' = w'' := fun A2 w' hs' => by
    have := bIndex_any w' A2 (n - (j + 1)) (c - (j + 1)) (l.drop (j + 1)) 39 (by rw [List.length_drop, hn]) hs'
    rw [show ((39 : Int).toNat.toUInt8) = UInt8.ofNat 39 from rfl, hix] at this
    exact this
  have hs2 := hs.drop (k := j + 1) (cap := c) (by rw [vB_len]; omega)
  rw [← vB_drop] at hs2
  have HS := Lib.hid hs
  by_cases hcj : c = j + 1
  · have hnil : l.drop (j + 1) = [] := List.drop_eq_nil_of_le (by omega)
    rw [hnil] at hix
    have hneg : ix = -1 := by rw [← hix]; rfl
    subst hneg
    rw [quoT_open (by omega) hb (by omega) (by rw [hnil, hix]; omega), trV_no]
    rw [if_pos hcj] at hs2
    have hq := fun m => quiet_l (HI (some ad) (w.drewN m) (hs2.drewN m))
    have hnj : n = j + 1 := by omega
    rw [hnj, hcj] at hq
    simp only [Nat.sub_self] at hq
    have HQ := Lib.hid hq
    have HNJ := Lib.hid hnj
    clear hs hs2 hq hb hn hnil HI hix
    subst hcj
    obtain rfl := HNJ.out
    go_enter Tryd.func123, Tryd.ntmps123
    go_wp2_with fail
    go_quiet ((go_at_call 138; exact HQ.out _))
    go_wp2_with fail
    go_ret3
    exact ⟨rfl, below_drw (Below.refl _ _) _⟩
  · rw [if_neg hcj] at hs2
    have hq := fun m => quiet_l (HI (some (ad.add (j + 1))) (w.drewN m) (hs2.drewN m))
    by_cases hneg : ix < 0
    · rw [quoT_open (by omega) hb (by omega) (by rw [hix]; exact hneg), trV_no]
      have HQ := Lib.hid hq
      clear hs hs2 hq hb hn HI hix
      go_enter Tryd.func123, Tryd.ntmps123
      go_wp2_with fail
      go_quiet ((go_at_call 138; exact HQ.out _))
      go_wp2_with fail
      go_ret3
      exact ⟨rfl, below_drw (Below.refl _ _) _⟩
    · obtain ⟨i, rfl⟩ : ∃ i : Nat, ix = i := ⟨ix.toNat, by omega⟩
      have hil : i < n - (j + 1) := by
        rcases index_cases (l.drop (j + 1)) (UInt8.ofNat 39) with ⟨h, _⟩ | ⟨i', h, h1, _⟩
        · omega
        · rw [List.length_drop, hn] at h1; omega
      rw [quoT_ok (by omega) hb (by omega) hix]
      have hp : Sees w (some (ad.add (j + 1))) (vB ((l.drop (j + 1)).take i)) := by rw [vB_take]; exact hs2.take i
      obtain ⟨T, hT⟩ : ∃ T, (l.drop (j + 1)).take i = T := ⟨_, rfl⟩
      rw [hT] at hp ⊢
      have hTl : T.length = i := by rw [← hT, List.length_take, List.length_drop]; omega
      have KC := Lib.hid (fun m => add1_at ad j ▸ conv_sees (w.drewN m) (some (ad.add (j + 1))) i (c - (j + 1)) T hTl (hp.drewN m))
      unfold trV
      have HQ := Lib.hid hq
      clear hs hs2 hq hb hn HI hix hp hT hTl
      go_enter Tryd.func123, Tryd.ntmps123
      go_wp2_with fail
      go_quiet ((go_at_call 138; exact HQ.out _))
      have kc := KC.out
      go_wp2_with fail
      go_ret3
      exact ⟨ret_t3 (by omega), below_drw (Below.refl _ _) _⟩

set_option maxHeartbeats 4000000 in
theorem quoted_any (l : List UInt8) (A : Option Addr) (n c : Nat) (k : Int) (w : World)
    (hn : l.length = n) (hnc : n ≤ c) (hm : c ≤ 9223372036854775807) (hk : I64 k) (hn9 : n ≤ 1000000) (hs : Sees w A (vB l)) :
    Calls Tryd.prog 123 #[.slice A n c, .int .i64 k] w fun e w' => e = .returned (trV (quoT l k)) ∧ Below w.heap.size w w' := by
  have hkl := hk.1
  have hkh := hk.2
  by_cases hout : k < 0 ∨ (n : Int) < k
  · rw [quoT_out (by rw [hn]; exact hout), trV_no]
    rcases hout with h0 | h0
    all_goals
      go_enter Tryd.func123, Tryd.ntmps123
      go_wp2_with fail
      go_ret3
      exact ⟨rfl, Below.refl _ _⟩
  · obtain ⟨j, rfl⟩ : ∃ j : Nat, k = j := ⟨k.toNat, by omega⟩
    have hj : j ≤ n := by omega
    by_cases hjn : j = n
    · rw [quoT_not (by omega) (.inl (by omega)), trV_no]
      subst hjn
      go_enter Tryd.func123, Tryd.ntmps123
      go_wp2_with fail
      go_ret3
      exact ⟨rfl, Below.refl _ _⟩
    · have hjl : j < n := by omega
      obtain ⟨ad, rfl, hcell⟩ := hs.byte (k := j) (by omega)
      obtain ⟨b, hb⟩ : ∃ b, byteAt l j = b := ⟨_, rfl⟩
      have hb256 := byteAt_lt l j
      rw [hb] at hcell hb256
      have hjne : j ≠ n := by omega
      by_cases hq : b = 34 ∨ b = 39
      · rcases hq with rfl | rfl
        · exact quoted_34 l ad n c j w hn hnc hm hn9 hs hjl hcell hb
        · exact quoted_39 l ad n c j w hn hnc hm hn9 hs hjl hcell hb
      · rw [quoT_not (by omega) (.inr (by rw [hb]; omega)), trV_no]
        have t34 : ((b : Int) != 34) = true := by simp; omega
        have t39 : ((b : Int) != 39) = true := by simp; omega
        clear hs hb hq
        go_enter Tryd.func123, Tryd.ntmps123
        go_wp2_with fail
        go_ret3
        exact ⟨rfl, Below.refl _ _⟩
end Go.Proofs.YtdmfladcldkmeaaDoor
