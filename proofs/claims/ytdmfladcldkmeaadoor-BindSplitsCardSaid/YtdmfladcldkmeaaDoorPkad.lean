/- The page's example of layer 2. Names: the readers of names and of plain names; what is read at a place. Names: what is read at a place; Name and Plain. Contracts: the document's own Runes and Ints; Text. Contracts: the document's own answers for characters' classes. -/
import Derived.Laws.IdiomStrings
import Derived.Lib.BufferRead
import Derived.Handy
import Derived.Deep.RegionHeld
import Derived.Laws.EntriesVeiled
import Derived.Test.YtdmfladcldkmeaaDoorPkac
namespace Go.Proofs.YtdmfladcldkmeaaDoor
open Go.ChangeShapes Go.WideShapes Go.ChangeAt Go.RowKit
set_option linter.unusedVariables false

theorem conv_sees (w : World) (A : Option Addr) (n c : Nat) (l : List UInt8) (hl : l.length = n) (hs : Sees w A (vB l)) :
    (convert 36 9 (.slice A n c)).run Tryd.prog w = .ok (.string ⟨l.toArray⟩) w := by
  subst hl
  rcases A with _ | a
  · have h0 : l = [] := by
      cases l with
      | nil => rfl
      | cons x l =>
        obtain ⟨ad, h, _⟩ := hs (by unfold vB; simp)
        cases h
    subst h0
    exact Lib.run_convert_nil_bytes w _ _ 5 c Tryd.underlying36 Tryd.underlying5 Tryd.underlying9
  · refine run_convert_bytes_back w _ _ 5 a c l Tryd.underlying36 Tryd.underlying5 Tryd.underlying9 (fun j hj => ?_)
    obtain ⟨ad, e, hc⟩ := hs.byte (k := j) hj
    obtain rfl : a = ad := by injection e
    rw [hc]
    unfold byteAt
    rw [List.getElem?_eq_getElem hj]; rfl
theorem sees_own {w : World} {base : Nat} {e : TypeId} {A : Option Addr} {n m c : Nat} {xs : List Value} (h : w.ownsRow base e 1 (.slice A m c) n xs) : Sees w A xs := by
  intro hne
  rcases h.2 with ⟨h1, h2⟩ | ⟨g, cap, cur, h1, h2, h3, h4⟩
  · have := h.1
    subst h2
    exact absurd (List.eq_nil_of_length_eq_zero (by simpa using this)) hne
  · injection h1 with h5
    refine ⟨⟨g, 0, none⟩, h5, fun j u hu => h.cells (g := g) ?_ j u hu⟩
    rw [h5]; rfl
theorem sees_new (w : World) (l : List Value) (t : TypeId) : Sees (w.alloc (.cells l.toArray t)) (some ⟨w.heap.size, 0, none⟩) l :=
  fun _ => ⟨_, rfl, cells_new w l t⟩
end Go.Proofs.YtdmfladcldkmeaaDoor
namespace Go.Proofs.YtdmfladcldkmeaaDoor
open Go.ChangeShapes Go.WideShapes Go.ChangeAt Go.RowKit
set_option linter.unusedVariables false
set_option maxRecDepth 100000

def startN (r : Int) : Bool := hasT startT r
def charN (r : Int) : Bool := hasT followT r || hasT startT r
def plainP (f : Int → Bool) (r : Int) : Bool := decide (r ≠ 58) && f r
theorem TabN.low {p : Nat} {w w' : World} (h : TabN w) (hp : w.heap.size ≤ p) (hb : Below p w w') : TabN w' := h.below (hb.mono hp)

set_option maxHeartbeats 400000 in
theorem plain1_any (F b : Nat) (f : Int → Bool) (r : Int) (w : World) (hc : w.cell? ⟨b, 0, none⟩ = some (.func (.func F) #[] #[])) (hF : Enters F)
    (h : Calls Tryd.prog F #[.int .i64 r] w fun e w' => e = .returned (.bool (f r)) ∧ Below w.heap.size w w') :
    Calls Tryd.prog 196 #[.int .i64 r, .pointer (some ⟨b, 0, none⟩)] w fun e w' => e = .returned (.bool (plainP f r)) ∧ Below w.heap.size w w' := by
  have hF' : ∀ args w, (callFunc F args).run Tryd.prog w = .ok (.enter F args) w := hF
  by_cases h58 : r = 58
  · subst h58
    go_enter Tryd.func196, Tryd.ntmps196
    go_wp2_with fail
    go_ret
    exact ⟨rfl, Below.refl _ _⟩
  · cases hr : f r with
    | true =>
      rw [hr] at h
      have H := Lib.hid h
      have HP := Lib.hid (show true = plainP f r by unfold plainP; rw [hr]; simp [h58])
      have t1 : (r != 58) = true := by simpa using h58
      clear h hr
      go_enter Tryd.func196, Tryd.ntmps196
      go_wp2_with fail
      refine H.out.mono ?_
      rintro e w1 ⟨rfl, hb⟩
      go_wp2_with fail
      go_ret
      exact ⟨ret_bool HP.out, hb⟩
    | false =>
      rw [hr] at h
      have H := Lib.hid h
      have HP := Lib.hid (show false = plainP f r by unfold plainP; rw [hr]; simp)
      have t1 : (r != 58) = true := by simpa using h58
      clear h hr
      go_enter Tryd.func196, Tryd.ntmps196
      go_wp2_with fail
      refine H.out.mono ?_
      rintro e w1 ⟨rfl, hb⟩
      go_wp2_with fail
      go_ret
      exact ⟨ret_bool HP.out, hb⟩

/-- A function value with a box of its own. -/
abbrev boxed (b : Nat) : Value := .func (.func 196) #[] #[.pointer (some ⟨b, 0, none⟩)]
set_option maxHeartbeats 400000 in
theorem plain_any (F : Nat) (w : World) (b : Nat) (hb : w.heap.size = b) :
    Calls Tryd.prog 185 #[.func (.func F) #[] #[]] w fun e w' => e = .returned (boxed b) ∧ w'.cell? ⟨b, 0, none⟩ = some (.func (.func F) #[] #[]) ∧ Below b w w' ∧ w'.heap.size = b + 1 := by
  subst hb
  go_enter Tryd.func185, Tryd.ntmps185
  go_wp2_with fail
  go_ret
  exact ⟨rfl, by simp [World.cell?_alloc_new], (Below.refl _ _).alloc (Nat.le_refl _) _, by simp⟩

abbrev fn0 (F : Nat) : Value := .func (.func F) #[] #[]
set_option maxHeartbeats 400000 in
theorem names_any (w : World) :
    Calls Tryd.prog 104 #[] w fun e w' => e = .returned (.agg #[fn0 142, fn0 143]) ∧ Below w.heap.size w w' := by
  go_enter Tryd.func104, Tryd.ntmps104
  go_wp2_with fail
  go_returns
  exact ⟨rfl, (Below.refl _ _).alloc (Nat.le_refl _) _⟩
set_option maxHeartbeats 400000 in
theorem plains_any (w : World) :
    Calls Tryd.prog 162 #[] w fun e w' => ∃ b c, e = .returned (.agg #[boxed b, boxed c]) ∧ b < w'.heap.size ∧ c < w'.heap.size ∧
      w'.cell? ⟨b, 0, none⟩ = some (fn0 142) ∧ w'.cell? ⟨c, 0, none⟩ = some (fn0 143) ∧ Below w.heap.size w w' := by
  go_enter Tryd.func162, Tryd.ntmps162
  go_wp2_with fail
  have z0 : (w.alloc (.cells #[.nilFunc, .nilFunc] 153)).heap.size = w.heap.size + 1 := by simp
  have y0 : (w.alloc (.cells #[.nilFunc, .nilFunc] 153)).cell? ⟨w.heap.size, 0, none⟩ = some .nilFunc := by simp [World.cell?_alloc_new]
  have y1 : (w.alloc (.cells #[.nilFunc, .nilFunc] 153)).cell? ⟨w.heap.size, 1, none⟩ = some .nilFunc := by simp [World.cell?_alloc_new]
  have f0 : ∀ i, (w.alloc (.cells #[.nilFunc, .nilFunc] 153)).frozen? ⟨w.heap.size, i, none⟩ = false := fun i => World.frozen?_alloc_new ..
  refine (plain_any _ _ (w.heap.size + 1) z0).mono ?_
  rintro e w1 ⟨rfl, hc1, hb1, hs1⟩
  go_wp2_with fail
  refine (plain_any _ _ (w.heap.size + 2) hs1).mono ?_
  rintro e w2 ⟨rfl, hc2, hb2, hs2⟩
  have g1 := (hb2.cell (p := ⟨w.heap.size + 1, 0, none⟩) (by simp)).trans hc1
  have x0 := (hb2.cell (p := ⟨w.heap.size, 0, none⟩) (by simp only; omega)).trans ((hb1.cell (p := ⟨w.heap.size, 0, none⟩) (by simp)).trans y0)
  have x1 := (hb2.cell (p := ⟨w.heap.size, 1, none⟩) (by simp only; omega)).trans ((hb1.cell (p := ⟨w.heap.size, 1, none⟩) (by simp)).trans y1)
  have v0 := (hb2.frozen (p := ⟨w.heap.size, 0, none⟩) (by simp only; omega)).trans ((hb1.frozen (p := ⟨w.heap.size, 0, none⟩) (by simp)).trans (f0 0))
  have v1 := (hb2.frozen (p := ⟨w.heap.size, 1, none⟩) (by simp only; omega)).trans ((hb1.frozen (p := ⟨w.heap.size, 1, none⟩) (by simp)).trans (f0 1))
  have B := (((Below.refl w.heap.size w).alloc (Nat.le_refl _) (.cells #[.nilFunc, .nilFunc] 153)).trans (hb1.mono (by omega))).trans (hb2.mono (by omega))
  clear y0 y1 f0 hb1 hb2
  go_wp2_with fail
  (try simp only [Exit.inBlock, Exit.then])
  have c0 := World.cell?_setCell_same' w2 ⟨w.heap.size, 0, none⟩ (boxed (w.heap.size + 1)) (by rw [x0]; rfl)
  have x1' : (w2.setCell ⟨w.heap.size, 0, none⟩ (boxed (w.heap.size + 1))).cell? ⟨w.heap.size, 1, none⟩ = some .nilFunc := by rw [World.cell?_setCell_other (h := by simp)]; exact x1
  have c1 := World.cell?_setCell_same' (w2.setCell ⟨w.heap.size, 0, none⟩ (boxed (w.heap.size + 1))) ⟨w.heap.size, 1, none⟩ (boxed (w.heap.size + 2)) (by rw [x1']; rfl)
  have c2 : ((w2.setCell ⟨w.heap.size, 0, none⟩ (boxed (w.heap.size + 1))).setCell ⟨w.heap.size, 1, none⟩ (boxed (w.heap.size + 2))).cell? ⟨w.heap.size, 0, none⟩ = some (boxed (w.heap.size + 1)) := by rw [World.cell?_setCell_other (h := by simp)]; exact c0
  refine bodyPost_ret (v := .agg #[boxed (w.heap.size + 1), boxed (w.heap.size + 2)]) (by simp [results, Tryd.results162, go_sem, c1, c2]) rfl ⟨_, _, rfl, ?_, ?_, ?_, ?_, ?_⟩
  · simp; omega
  · simp; omega
  · rw [World.cell?_setCell_far _ _ _ _ (by simp), World.cell?_setCell_far _ _ _ _ (by simp)]; exact g1
  · rw [World.cell?_setCell_far _ _ _ _ (by simp), World.cell?_setCell_far _ _ _ _ (by simp)]; exact hc2
  · exact (B.setCell (Nat.le_refl _) _).setCell (Nat.le_refl _) _
end Go.Proofs.YtdmfladcldkmeaaDoor
namespace Go.Proofs.YtdmfladcldkmeaaDoor
open Go.ChangeShapes Go.WideShapes Go.ChangeAt Go.RowKit
set_option linter.unusedVariables false
set_option maxRecDepth 100000

def readV (l : List UInt8) (k : Int) (p q : Int → Bool) : Value :=
  if k < 0 ∨ (l.length : Int) < k then .tuple #[.string ⟨#[]⟩, .int .i64 0, .int .i64 3]
  else if endN l q l.length p k.toNat = k.toNat then .tuple #[.string ⟨#[]⟩, .int .i64 0, .int .i64 7]
  else if 1024 < endN l q l.length p k.toNat - k.toNat then .tuple #[.string ⟨#[]⟩, .int .i64 0, .int .i64 11]
  else .tuple #[.string ⟨((l.drop k.toNat).take (endN l q l.length p k.toNat - k.toNat)).toArray⟩, .int .i64 (endN l q l.length p k.toNat : Nat), .int .i64 0]
theorem readV_out {l : List UInt8} {k : Int} {p q : Int → Bool} (h : k < 0 ∨ (l.length : Int) < k) : readV l k p q = .tuple #[.string ⟨#[]⟩, .int .i64 0, .int .i64 3] := by rw [readV, if_pos h]
theorem readV_none {l : List UInt8} {k : Nat} {p q : Int → Bool} (h : k ≤ l.length) (hz : endN l q l.length p k = k) : readV l k p q = .tuple #[.string ⟨#[]⟩, .int .i64 0, .int .i64 7] := by
  rw [readV, if_neg (by omega), Int.toNat_natCast, if_pos hz]
theorem readV_long {l : List UInt8} {k z : Nat} {p q : Int → Bool} (h : k ≤ l.length) (hz : endN l q l.length p k = z) (h1 : k < z) (h2 : 1024 < z - k) : readV l k p q = .tuple #[.string ⟨#[]⟩, .int .i64 0, .int .i64 11] := by
  rw [readV, if_neg (by omega), Int.toNat_natCast, hz, if_neg (by omega), if_pos h2]
theorem readV_ok {l : List UInt8} {k z : Nat} {p q : Int → Bool} (h : k ≤ l.length) (hz : endN l q l.length p k = z) (h1 : k < z) (h2 : z - k ≤ 1024) : readV l k p q = .tuple #[.string ⟨((l.drop k).take (z - k)).toArray⟩, .int .i64 (z : Int), .int .i64 0] := by
  rw [readV, if_neg (by omega), Int.toNat_natCast, hz, if_neg (by omega), if_neg (by omega)]
set_option maxHeartbeats 1000000 in
theorem read_any (l : List UInt8) (A : Option Addr) (n c : Nat) (k : Int) (w : World) (F G : Nat) (cf cg : Array Value) (p q : Int → Bool)
    (hn : l.length = n) (hnc : n ≤ c) (hm : c ≤ 9223372036854775807) (hk : I64 k) (hs : Sees w A (vB l))
    (hF : Enters F) (hG : Enters G) (tF : Tells F cf p w.heap.size w) (tG : Tells G cg q w.heap.size w) :
    Calls Tryd.prog 115 #[.agg #[.func (.func F) #[] cf, .func (.func G) #[] cg], .slice A n c, .int .i64 k] w fun e w' =>
      e = .returned (readV l k p q) ∧ Below w.heap.size w w' := by
  have hkl := hk.1
  have hkh := hk.2
  by_cases hout : k < 0 ∨ (n : Int) < k
  · rw [readV_out (by rw [hn]; exact hout)]
    rcases hout with h0 | h0
    all_goals
      go_enter Tryd.func115, Tryd.ntmps115
      go_wp2_with fail
      go_ret3
      exact ⟨rfl, (Below.refl _ _).alloc (Nat.le_refl _) _⟩
  · obtain ⟨j, rfl⟩ : ∃ j : Nat, k = j := ⟨k.toNat, by omega⟩
    have hj : j ≤ n := by omega
    have H := fun (w' : World) (hb : Below w.heap.size w w') => end_any l A n c j w' F G cf cg p q hn hnc hm hj (hs.below hb) hF hG (fun r w'' hb' => tF r w'' (hb.trans (hb'.mono hb.size))) (fun r w'' hb' => tG r w'' (hb.trans (hb'.mono hb.size)))
    have hle := endN_le l q n p j (by omega)
    obtain ⟨z, hz⟩ : ∃ z, endN l q n p j = z := ⟨_, rfl⟩
    rw [hz] at H hle
    rw [hn] at hle
    subst hn
    have HE := Lib.hid (H (w.alloc (.cells #[.func (.func F) #[] cf, .func (.func G) #[] cg] 153)) ((Below.refl _ _).alloc (Nat.le_refl _) _))
    clear H
    rcases Nat.lt_or_ge j z with hjz | hjz
    · obtain ⟨ad, rfl, hcell⟩ := hs.byte (k := j) (by omega)
      by_cases hlong : 1024 < z - j
      · rw [readV_long hj hz hjz hlong]
        clear hz hcell
        go_enter Tryd.func115, Tryd.ntmps115
        go_wp2_with fail
        refine HE.out.mono ?_
        rintro e w1 ⟨rfl, hb⟩
        go_wp2_with fail
        go_ret3
        exact ⟨rfl, ((Below.refl _ _).alloc (Nat.le_refl _) _).trans (hb.mono (by simp))⟩
      · rw [readV_ok hj hz hjz (by omega)]
        have hsd : Sees w (some (ad.add j)) (vB ((l.drop j).take (z - j))) := by
          have h1 := hs.drop (k := j) (cap := c) (by rw [vB_len]; exact hnc)
          rw [if_neg (by omega), ← vB_drop] at h1
          have h2 := h1.take (z - j)
          rw [← vB_take] at h2
          exact h2
        clear hz hcell
        go_enter Tryd.func115, Tryd.ntmps115
        go_wp2_with fail
        refine HE.out.mono ?_
        rintro e w1 ⟨rfl, hb⟩
        have kc := conv_sees w1 (some (ad.add j)) (z - j) (c - j) _ (by simp; omega) (hsd.below (((Below.refl _ _).alloc (Nat.le_refl _) _).trans (hb.mono (by simp))))
        go_wp2_with fail
        go_ret3
        exact ⟨rfl, ((Below.refl _ _).alloc (Nat.le_refl _) _).trans (hb.mono (by simp))⟩
    · obtain rfl : z = j := by omega
      rw [readV_none hj hz]
      clear hz
      go_enter Tryd.func115, Tryd.ntmps115
      go_wp2_with fail
      refine HE.out.mono ?_
      rintro e w1 ⟨rfl, hb⟩
      go_wp2_with fail
      go_ret3
      exact ⟨rfl, ((Below.refl _ _).alloc (Nat.le_refl _) _).trans (hb.mono (by simp))⟩

theorem enters_start : Enters 142 := fun _ _ => by kernel_rfl
theorem enters_char : Enters 143 := fun _ _ => by kernel_rfl
theorem enters_plain : Enters 196 := fun _ _ => by kernel_rfl
theorem tells_start {p : Nat} {w : World} (ht : TabN w) (hp : w.heap.size ≤ p) : Tells 142 #[] startN p w :=
  fun r w' hb => nameStart_n r w' (ht.low hp hb)
theorem tells_char {p : Nat} {w : World} (ht : TabN w) (hp : w.heap.size ≤ p) : Tells 143 #[] charN p w :=
  fun r w' hb => nameChar_n r w' (ht.low hp hb)
theorem tells_plain {F b p : Nat} {f : Int → Bool} {w : World} (hF : Enters F) (hbp : b < p) (hc : w.cell? ⟨b, 0, none⟩ = some (fn0 F)) (h : Tells F #[] f p w) :
    Tells 196 #[.pointer (some ⟨b, 0, none⟩)] (plainP f) p w :=
  fun r w' hb => plain1_any F b f r w' ((hb.cell (p := ⟨b, 0, none⟩) hbp).trans hc) hF (h r w' hb)

set_option maxHeartbeats 1000000 in
theorem name_any (l : List UInt8) (A : Option Addr) (n c : Nat) (k : Int) (w : World) (hn : l.length = n) (hnc : n ≤ c) (hm : c ≤ 9223372036854775807) (hk : I64 k) (hs : Sees w A (vB l)) (ht : TabN w) :
    Calls Tryd.prog 79 #[.slice A n c, .int .i64 k] w fun e w' => e = .returned (readV l k startN charN) ∧ Below w.heap.size w w' := by
  have HR := Lib.hid (fun (w' : World) (hb : Below w.heap.size w w') => read_any l A n c k w' _ _ _ _ _ _ hn hnc hm hk (hs.below hb) enters_start enters_char (tells_start (ht.below hb) (Nat.le_refl _)) (tells_char (ht.below hb) (Nat.le_refl _)))
  have HV : ∃ x y z, readV l k startN charN = .tuple #[x, y, z] := by
    unfold readV; split
    · exact ⟨_, _, _, rfl⟩
    · split
      · exact ⟨_, _, _, rfl⟩
      · split <;> exact ⟨_, _, _, rfl⟩
  obtain ⟨x, y, z, hv⟩ := HV
  rw [hv] at HR ⊢
  clear hv
  go_enter Tryd.func79, Tryd.ntmps79
  go_wp2_with fail
  refine (names_any w).mono ?_
  rintro e w1 ⟨rfl, hb1⟩
  go_wp2_with fail
  refine (HR.out w1 hb1).mono ?_
  rintro e w2 ⟨rfl, hb2⟩
  go_wp2_with fail
  go_ret3
  exact ⟨rfl, hb1.trans (hb2.mono hb1.size)⟩
set_option maxHeartbeats 1000000 in
theorem plainN_any (l : List UInt8) (A : Option Addr) (n c : Nat) (k : Int) (w : World) (hn : l.length = n) (hnc : n ≤ c) (hm : c ≤ 9223372036854775807) (hk : I64 k) (hs : Sees w A (vB l)) (ht : TabN w) :
    Calls Tryd.prog 197 #[.slice A n c, .int .i64 k] w fun e w' => e = .returned (readV l k (plainP startN) (plainP charN)) ∧ Below w.heap.size w w' := by
  have HR := Lib.hid (fun (w' : World) (b1 b2 : Nat) (hb : Below w.heap.size w w') (l1 : b1 < w'.heap.size) (l2 : b2 < w'.heap.size) (c1 : w'.cell? ⟨b1, 0, none⟩ = some (fn0 142)) (c2 : w'.cell? ⟨b2, 0, none⟩ = some (fn0 143)) =>
    read_any l A n c k w' _ _ _ _ _ _ hn hnc hm hk (hs.below hb) enters_plain enters_plain (tells_plain enters_start l1 c1 (tells_start (ht.below hb) (Nat.le_refl _))) (tells_plain enters_char l2 c2 (tells_char (ht.below hb) (Nat.le_refl _))))
  have HV : ∃ x y z, readV l k (plainP startN) (plainP charN) = .tuple #[x, y, z] := by
    unfold readV; split
    · exact ⟨_, _, _, rfl⟩
    · split
      · exact ⟨_, _, _, rfl⟩
      · split <;> exact ⟨_, _, _, rfl⟩
  obtain ⟨x, y, z, hv⟩ := HV
  rw [hv] at HR ⊢
  clear hv
  go_enter Tryd.func197, Tryd.ntmps197
  go_wp2_with fail
  refine (plains_any w).mono ?_
  rintro e w1 ⟨b1, b2, rfl, l1, l2, c1, c2, hb1⟩
  go_wp2_with fail
  refine (HR.out w1 b1 b2 hb1 l1 l2 c1 c2).mono ?_
  rintro e w2 ⟨rfl, hb2⟩
  go_wp2_with fail
  go_ret3
  exact ⟨rfl, hb1.trans (hb2.mono hb1.size)⟩
end Go.Proofs.YtdmfladcldkmeaaDoor
namespace Go.Proofs.YtdmfladcldkmeaaDoor
open Go.ChangeShapes Go.WideShapes Go.ChangeAt Go.RowKit
set_option linter.unusedVariables false

/-- What the document's own Runes tells. -/
def RRunesPost (l : List UInt8) (w : World) (e : Ending) (W' : World) : Prop :=
  (badS l = none → ∃ v, e = .returned (.tuple #[v, .int .i64 (-1)]) ∧ W'.ownsRow w.heap.size 3 1 v (runesS l).length ((runesS l).map (Value.int .i64))) ∧
  (∀ k, badS l = some k → e = .returned (.tuple #[.slice none 0 0, .int .i64 (k : Int)])) ∧ Below w.heap.size w W'
theorem rchar_err (l : List UInt8) (A : Option Addr) (n c k : Nat) (w : World) (hn : l.length = n) (hm : n ≤ 9223372036854775800) (hk : k < n) (hs : Sees w A (vB l)) (h : (chrAt l k).2 = 0) :
    Calls Tryd.prog 133 #[.slice A n c, .int .i64 k] w fun e w' => e = .returned (.tuple #[.int .i64 0, .int .i64 0]) ∧ Below w.heap.size w w' := by
  have := rchar_any l A n c k w hn hm hk hs
  have h2 : chrV l k = .tuple #[.int .i64 0, .int .i64 0] := by
    unfold chrV
    have : chrAt l k = (0, 0) := by
      unfold chrAt at h ⊢
      simp only [] at h ⊢
      split
      · rfl
      · next hc => rw [if_neg hc] at h; exact absurd (.inl h) hc
    rw [this]; rfl
  rw [h2] at this
  exact this
theorem rchar_ok (l : List UInt8) (A : Option Addr) (n c k : Nat) (w : World) (hn : l.length = n) (hm : n ≤ 9223372036854775800) (hk : k < n) (hs : Sees w A (vB l)) (r : Int) (m : Nat) (h : chrAt l k = (r, m)) :
    Calls Tryd.prog 133 #[.slice A n c, .int .i64 k] w fun e w' => e = .returned (.tuple #[.int .i64 r, .int .i64 m]) ∧ Below w.heap.size w w' := by
  have := rchar_any l A n c k w hn hm hk hs
  unfold chrV at this
  rw [h] at this
  exact this
theorem own_below {w w' : World} {base : Nat} {e : TypeId} {size n : Nat} {v : Value} {xs : List Value} (h : w.ownsRow base e size v n xs) (hb : Below w.heap.size w w') : w'.ownsRow base e size v n xs :=
  h.kept (row := none) ⟨hb.os, hb.tape, hb.output, hb.size, fun i hi _ => hb.block i hi⟩ (by
    rcases h.2 with ⟨rfl, _⟩ | ⟨g, _, _, rfl, _⟩
    · exact .inl rfl
    · exact .inr (by simp [Value.ownBlock]))

set_option maxRecDepth 100000 in
set_option maxHeartbeats 2000000 in
theorem rrunes_any (A : Option Addr) (len cap : Nat) (l : List UInt8) (hlen : l.length = len) (hsmall : len ≤ 17592186044416) (w : World) (hs : Sees w A (vB l)) :
    Calls Tryd.prog 96 #[.slice A len cap] w fun e W' => RRunesPost l w e W' := by
  have HL := Lib.hid hlen
  have hN := stepsS_len l
  rw [hlen] at hN
  clear hlen
  obtain ⟨i0, hi0, hz0, hz1, hz2⟩ := info_parts int_info
  go_enter Tryd.func96, Tryd.ntmps96
  go_wp2_with fail
  go_loopw [4, 5] (fun v i wr => ∃ k f : Nat, ∃ pre : List Item, k ≤ len ∧ len ≤ k + f ∧ i = .int .i64 k ∧ pre ++ items l f k = stepsS l ∧ (∀ y ∈ pre, y.2.2 = 0) ∧ wr.ownsRow w.heap.size 3 1 v pre.length (nums pre) ∧ Below w.heap.size w wr)
    (fun _ i _ => len - (intOf i).toNat)
  case atStart => exact ⟨0, len, [], by omega, by omega, rfl, by unfold stepsS; rw [HL.out]; rfl, by simp, World.ownsRow_nil _ _ _ _, Below.refl _ _⟩
  case round =>
    obtain ⟨k, f, pre, hk, hf, rfl, hp, hall, hrow, hB⟩ := hrel
    have hpl2 : pre.length ≤ len := by
      have := congrArg List.length hp
      rw [List.length_append] at this
      omega
    have HP := Lib.hid hp
    have HA := Lib.hid hall
    have hsW := hB.size
    obtain ⟨A', cap', rfl⟩ := ownsRow_form hrow
    clear hp hall
    by_cases hlt : k < len
    · obtain ⟨f, rfl⟩ : ∃ g, f = g + 1 := ⟨f - 1, by omega⟩
      have hkl : k < l.length := by rw [HL.out]; exact hlt
      have hsw := hs.below hB
      by_cases hc : (chrAt l k).2 = 0
      · have HD := Lib.hid (rchar_err l A len cap k wr HL.out (by omega) hlt hsw hc)
        have hit := items_bad l f k hkl hc
        have hbad : badS l = some k := by
          have := badS_some (l := l) (pre := pre) (x := (0, k, 5)) (by rw [← HP.out, hit]; exact List.prefix_refl _) HA.out (by simp)
          exact this.1
        have HBD := Lib.hid hbad
        clear hbad hit hc hkl hsw hs
        go_wp2_with (go_at_call 133; refine HD.out.mono ?_; rintro e w1 ⟨rfl, hb1⟩)
        go_ret2
        refine ⟨fun h => absurd h (by rw [HBD.out]; simp), fun j hj => ?_, hB.trans (hb1.mono hsW)⟩
        rw [HBD.out] at hj
        injection hj with hj
        rw [← hj]; rfl
      · obtain ⟨r, m, hrm⟩ : ∃ r m, chrAt l k = (r, m) := ⟨_, _, rfl⟩
        have hroom := chrAt_room l k hkl
        rw [hrm] at hc hroom
        have hit := items_good l f k hkl (by rw [hrm]; exact hc)
        rw [hrm] at hit
        simp only [] at hc hroom hit
        obtain ⟨hm1, hm4⟩ := hroom
        rw [HL.out] at hm1
        have HD := Lib.hid (rchar_ok l A len cap k wr HL.out (by omega) hlt hsw r m hrm)
        have HE := Lib.hid hit
        have hm0 : ((m : Int) == 0) = false := by simp; omega
        have hm2 : 1 ≤ m := by omega
        have hpl3 : pre.length + 1 ≤ len := by
          have := congrArg List.length HP.out
          rw [hit, List.length_append, List.length_cons] at this
          omega
        clear hc hkl hsw hs hit hrm
        go_wp2_with (first
          | (go_at_call 133; refine HD.out.mono ?_; rintro e w1 ⟨rfl, hb1⟩; have hrow1 := own_below hrow hb1; have hB1 := hB.trans (hb1.mono hsW); have hs1 := hB1.size)
          | (at_builtin; refine wpList_append_own _ rfl _ _ 134 rfl w.heap.size 3 i0 (.int .i64 0) 1 8 Tryd.underlying134 hi0 hz0 hz1 hz2 rfl (by decide) (.slice A' pre.length cap') pre.length (nums pre) rfl (hrow1.alloc _) ⟨w1.heap.size, 0, none⟩ 1 1 [.int .i64 r] rfl rfl (cells_new w1 [.int .i64 r] _) (ints_one .i64 [r]) (by unfold maxLen; omega) (by omega) (by simp; omega) ?_; intro v' w2 hown2 hgrow2 _))
        have hB2 : Below w.heap.size w w2 := (hB1.alloc hs1 _).grown hgrow2 (by simp; omega) (fun j hj => (hrow1.lt j hj).1)
        go_roundw
        case rel =>
          refine ⟨k + m, f, pre ++ [(r, k, 0)], by omega, by omega, by go_num, by rw [← HP.out, HE.out]; simp, ?_, ?_, hB2⟩
          · intro y hy
            rcases List.mem_append.1 hy with h | h
            · exact HA.out y h
            · simp at h; subst h; rfl
          · rw [nums_snoc, List.length_append]; exact hown2
        case measure => simp [intOf]; omega
    · have hkk : len ≤ k := by omega
      have HE := Lib.hid (items_end l f k (by rw [HL.out]; exact hkk))
      go_wp2_with fail
      go_ret2
      have hpre : pre = stepsS l := by rw [← HP.out, HE.out, List.append_nil]
      have hbn := badS_none hpre HA.out
      refine ⟨fun _ => ⟨_, rfl, ?_⟩, fun j hj => absurd hj (by rw [hbn]; simp), hB⟩
      have e : (runesS l).map (Value.int .i64) = nums pre := by unfold runesS nums; rw [hpre, List.map_map]; rfl
      have e2 : (runesS l).length = pre.length := by unfold runesS; rw [List.length_map, hpre]
      rw [e, e2]
      exact hrow
end Go.Proofs.YtdmfladcldkmeaaDoor
namespace Go.Proofs.YtdmfladcldkmeaaDoor
open Go.ChangeShapes Go.WideShapes Go.ChangeAt Go.RowKit
set_option linter.unusedVariables false

theorem charT_iff (r : Int) : hasT charT r = true ↔ (9 ≤ r ∧ r ≤ 10) ∨ (13 ≤ r ∧ r ≤ 13) ∨ (32 ≤ r ∧ r ≤ 55295) ∨ (57344 ≤ r ∧ r ≤ 65533) ∨ (65536 ≤ r ∧ r ≤ 1114111) := by
  simp [hasT, charT]
theorem startT_iff (r : Int) : hasT startT r = true ↔ (58 ≤ r ∧ r ≤ 58) ∨ (65 ≤ r ∧ r ≤ 90) ∨ (95 ≤ r ∧ r ≤ 95) ∨ (97 ≤ r ∧ r ≤ 122) ∨ (192 ≤ r ∧ r ≤ 214) ∨ (216 ≤ r ∧ r ≤ 246) ∨ (248 ≤ r ∧ r ≤ 767) ∨ (880 ≤ r ∧ r ≤ 893) ∨ (895 ≤ r ∧ r ≤ 8191) ∨
    (8204 ≤ r ∧ r ≤ 8205) ∨ (8304 ≤ r ∧ r ≤ 8591) ∨ (11264 ≤ r ∧ r ≤ 12271) ∨ (12289 ≤ r ∧ r ≤ 55295) ∨ (63744 ≤ r ∧ r ≤ 64975) ∨ (65008 ≤ r ∧ r ≤ 65533) ∨ (65536 ≤ r ∧ r ≤ 983039) := by
  simp [hasT, startT]
theorem followT_iff (r : Int) : hasT followT r = true ↔ (45 ≤ r ∧ r ≤ 46) ∨ (48 ≤ r ∧ r ≤ 57) ∨ (183 ≤ r ∧ r ≤ 183) ∨ (768 ≤ r ∧ r ≤ 879) ∨ (8255 ≤ r ∧ r ≤ 8256) := by
  simp [hasT, followT]
theorem pubidT_iff (r : Int) : hasT pubidT r = true ↔ (10 ≤ r ∧ r ≤ 10) ∨ (13 ≤ r ∧ r ≤ 13) ∨ (32 ≤ r ∧ r ≤ 33) ∨ (35 ≤ r ∧ r ≤ 37) ∨ (39 ≤ r ∧ r ≤ 59) ∨ (61 ≤ r ∧ r ≤ 61) ∨ (63 ≤ r ∧ r ≤ 90) ∨ (95 ≤ r ∧ r ≤ 95) ∨ (97 ≤ r ∧ r ≤ 122) := by
  simp [hasT, pubidT]
def blankB (r : Int) : Bool := decide (r = 32) || decide (r = 9) || decide (r = 13) || decide (r = 10)
theorem blankB_iff (r : Int) : blankB r = true ↔ r = 32 ∨ r = 9 ∨ r = 13 ∨ r = 10 := by
  simp [blankB, or_assoc]
theorem yes_ {b : Bool} {p : Prop} (h : b = true ↔ p) (hp : p) : true = b := (h.2 hp).symm
theorem no_ {b : Bool} {p : Prop} (h : b = true ↔ p) (hp : ¬ p) : false = b := by
  cases b
  · rfl
  · exact absurd (h.1 rfl) hp


set_option maxRecDepth 100000 in
set_option maxHeartbeats 2000000 in
theorem rchar3_any (r : Int) (w : World) :
    Calls Tryd.prog 128 #[.int .i64 r] w fun e w' => e = .returned (.bool (hasT charT r)) ∧ w = w' := by
  go_enter Tryd.func128, Tryd.ntmps128
  go_wp2
  all_goals
    go_ret
    exact ⟨ret_bool (by rw [Bool.eq_iff_iff, charT_iff r]; simp; try omega), rfl⟩

set_option maxRecDepth 100000 in
set_option maxHeartbeats 400000 in
theorem rblank_any (r : Int) (w : World) :
    Calls Tryd.prog 76 #[.int .i64 r] w fun e w' => e = .returned (.bool (blankB r)) ∧ w = w' := by
  go_enter Tryd.func76, Tryd.ntmps76
  go_wp2
  all_goals
    go_ret
    exact ⟨ret_bool (by rw [Bool.eq_iff_iff, blankB_iff r]; simp; try omega), rfl⟩

set_option maxRecDepth 100000 in
set_option maxHeartbeats 400000 in
theorem blank_any (r : Int) (w : World) :
    Calls Tryd.prog 75 #[.int .i64 r] w fun e w' => e = .returned (.bool (blankB r)) ∧ w = w' := by
  have D : r = 32 ∨ (r ≠ 32 ∧ r = 9) ∨ (r ≠ 32 ∧ r ≠ 9 ∧ r = 13) ∨ (r ≠ 32 ∧ r ≠ 9 ∧ r ≠ 13 ∧ r = 10) ∨ (r ≠ 32 ∧ r ≠ 9 ∧ r ≠ 13 ∧ r ≠ 10) := by omega
  rcases D with rfl | ⟨_, rfl⟩ | ⟨_, _, rfl⟩ | ⟨_, _, _, rfl⟩ | ⟨h1, h2, h3, h4⟩
  all_goals
    go_enter Tryd.func75, Tryd.ntmps75
    go_wp2
    go_ret
    exact ⟨ret_bool (by rw [Bool.eq_iff_iff, blankB_iff]; simp; try omega), rfl⟩

theorem one_any (b : Bool) (w : World) :
    Calls Tryd.prog 179 #[.bool b] w fun e w' => e = .returned (.int .i64 (if b then 1 else 0)) ∧ w = w' := by
  cases b
  all_goals
    go_enter Tryd.func179, Tryd.ntmps179
    go_wp2
    go_ret
    exact ⟨rfl, rfl⟩

end Go.Proofs.YtdmfladcldkmeaaDoor
