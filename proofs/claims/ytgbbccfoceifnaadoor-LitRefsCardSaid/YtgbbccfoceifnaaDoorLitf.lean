/- Texts between quotes with checks: checked over any function values, Value, Entity; the document's Strict. -/
import Derived.Test.YtgbbccfoceifnaaDoorLite
import Derived.Lib.Bytealg
namespace Go.Proofs.YtgbbccfoceifnaaDoor
open Go.ChangeShapes Go.WideShapes Go.ChangeAt Go.RowKit
set_option linter.unusedVariables false
set_option maxRecDepth 100000

set_option maxHeartbeats 1000000 in
theorem slIndex_any (l : List UInt8) (b : Nat) (w : World) :
    Calls Tryd.prog 142 #[strV l, .int .u8 (b : Int)] w fun e w' => e = .returned (.int .i64 (Lib.indexByte l (UInt8.ofNat b))) ∧ w = w' := by
  have H := Lib.hid (Lib.run_indexByteString (P := Tryd.prog) ⟨l.toArray⟩ (b : Int) w)
  go_enter Tryd.func142, Tryd.ntmps142
  go_wp2
  rw [run_callFunc_extern Tryd.func166 (by kernel_rfl) (by kernel_rfl) (by kernel_rfl) (e := Extern.BytealgIndexByte.indexByte) (by kernel_rfl), H.out]
  simp only [Result.andThen]
  rw [Oper.upon_value]
  go_wp2
  go_ret
  exact ⟨rfl, rfl⟩
set_option maxHeartbeats 1000000 in
theorem sIndex_any (l : List UInt8) (b : Nat) (w : World) :
    Calls Tryd.prog 112 #[strV l, .int .u8 (b : Int)] w fun e w' => e = .returned (.int .i64 (Lib.indexByte l (UInt8.ofNat b))) ∧ w = w' := by
  have H := Lib.hid (slIndex_any l b w)
  go_enter Tryd.func112, Tryd.ntmps112
  go_wp2_with fail
  refine H.out.mono ?_
  rintro e w1 ⟨rfl, rfl⟩
  go_wp2_with fail
  go_ret
  exact ⟨rfl, rfl⟩

/-- A function value that tells an error of a text by E, in every world that keeps what lay below p. -/
def TellsE (F : Nat) (caps : Array Value) (E : List UInt8 → Int) (p : Nat) (W : World) : Prop :=
  ∀ (s : List UInt8) (w' : World), s.length ≤ 1000000 → Below p W w' → Calls Tryd.prog F (#[strV s] ++ caps) w' fun e w'' => e = .returned (.int .i64 (E s)) ∧ Below w'.heap.size w' w''

set_option maxHeartbeats 1000000 in
theorem without1_any (c : Nat) (s : List UInt8) (B : Nat) (w : World) (hc : w.cell? ⟨B, 0, none⟩ = some (.int .u8 (c : Int))) :
    Calls Tryd.prog 111 #[strV s, .pointer (some ⟨B, 0, none⟩)] w fun e w' => e = .returned (.int .i64 (withoutE c s)) ∧ Below w.heap.size w w' := by
  have H := sIndex_any s c w
  unfold withoutE
  obtain ⟨ix, hix⟩ : ∃ ix, Lib.indexByte s (UInt8.ofNat c) = ix := ⟨_, rfl⟩
  rw [hix] at H ⊢
  have HH := Lib.hid H
  clear H hix
  by_cases h : 0 ≤ ix
  · rw [if_pos h]
    go_enter Tryd.func111, Tryd.ntmps111
    go_wp2_with fail
    refine HH.out.mono ?_
    rintro e w1 ⟨rfl, rfl⟩
    go_wp2_with fail
    go_ret
    exact ⟨rfl, Below.refl _ _⟩
  · rw [if_neg h]
    go_enter Tryd.func111, Tryd.ntmps111
    go_wp2_with fail
    refine HH.out.mono ?_
    rintro e w1 ⟨rfl, rfl⟩
    go_wp2_with fail
    go_ret
    exact ⟨rfl, Below.refl _ _⟩
set_option maxHeartbeats 1000000 in
theorem without_any (c : Nat) (w : World) :
    Calls Tryd.prog 65 #[.int .u8 (c : Int)] w fun e w' => e = .returned (.func (.func 111) #[] #[.pointer (some ⟨w.heap.size, 0, none⟩)]) ∧ w' = w.alloc (.cells #[.int .u8 (c : Int)] 5) := by
  go_enter Tryd.func65, Tryd.ntmps65
  go_wp2_with fail
  go_ret
  exact ⟨rfl, rfl⟩
set_option maxHeartbeats 1000000 in
theorem rightRefs_any (s : List UInt8) (w : World) (hs : s.length ≤ 1000000) (ht : TabC w) :
    Calls Tryd.prog 66 #[strV s] w fun e w' => e = .returned (.int .i64 (refsE s)) ∧ Below w.heap.size w w' := by
  have H := Lib.hid (refs_any s w hs ht)
  unfold refsV at H
  unfold refsE
  obtain ⟨x, y, hxy⟩ : ∃ x y, refsN s s.length 0 = (x, y) := ⟨_, _, rfl⟩
  rw [hxy] at H ⊢
  go_enter Tryd.func66, Tryd.ntmps66
  go_wp2_with fail
  refine H.out.mono ?_
  rintro e w1 ⟨rfl, hb⟩
  go_wp2_with fail
  go_ret
  exact ⟨rfl, hb⟩

theorem chk_zero {fs : List (List UInt8 → Int)} {s : List UInt8} {k : Nat} (hk : k < fs.length) (h : (fs[k]'hk) s = 0) : chk (fs.drop k) s = chk (fs.drop (k + 1)) s := by
  rw [List.drop_eq_getElem_cons hk, chk, if_neg (by rw [h]; simp)]
theorem chk_one {fs : List (List UInt8 → Int)} {s : List UInt8} {k : Nat} (hk : k < fs.length) (h : (fs[k]'hk) s ≠ 0) : chk (fs.drop k) s = (fs[k]'hk) s := by
  rw [List.drop_eq_getElem_cons hk, chk, if_pos h]
abbrev Chk := Nat × Array Value × (List UInt8 → Int)
def chkV (x : Chk) : Value := .func (.func x.1) #[] x.2.1
theorem ret_tr {x y : Trip} (h : x = y) : Ending.returned (trV x) = .returned (trV y) := by rw [h]

set_option maxHeartbeats 4000000 in
theorem checked_any (fs : List Chk) (l : List UInt8) (A A3 : Option Addr) (n c m c3 : Nat) (k : Int) (w : World)
    (hn : l.length = n) (hnc : n ≤ c) (hm : c ≤ 9223372036854775807) (hk : I64 k) (hn9 : n ≤ 1000000) (hs : Sees w A (vB l))
    (hfl : fs.length = m) (hm3 : m ≤ 1000000) (hf : Sees w A3 (fs.map chkV)) (he : ∀ x ∈ fs, Enters x.1 ∧ TellsE x.1 x.2.1 x.2.2 w.heap.size w) :
    Calls Tryd.prog 64 #[.slice A n c, .int .i64 k, .slice A3 m c3] w fun e w' => e = .returned (trV (chkT (fs.map fun x : Chk => x.2.2) (quoT l k))) ∧ Below w.heap.size w w' := by
  have HQ := quoted_any l A n c k w hn hnc hm hk hn9 hs
  have hqe := quoT_err l k
  have hql := quoT_len l k
  unfold chkT
  obtain ⟨s, y, e0, hq⟩ : ∃ s y e0, quoT l k = (s, y, e0) := ⟨_, _, _, rfl⟩
  rw [hq] at HQ hqe hql ⊢
  simp only at hqe hql ⊢
  have HF := Lib.hid hf
  have HE := Lib.hid he
  by_cases h0 : e0 = 0
  · subst h0
    rw [if_neg (by simp)]
    unfold trV at HQ
    have H := Lib.hid HQ
    obtain ⟨V, hV⟩ : ∃ V, trV (if chk (fs.map fun x : Chk => x.2.2) s ≠ 0 then noT (chk (fs.map fun x : Chk => x.2.2) s) else (s, y, 0)) = V := ⟨_, rfl⟩
    have HV := Lib.hid hV
    rw [hV]
    have hsl : s.length ≤ 1000000 := by omega
    clear HQ hqe hql hq hV hs hf he
    go_enter Tryd.func64, Tryd.ntmps64
    go_wp2_with fail
    refine H.out.mono ?_
    rintro e w1 ⟨rfl, hb1⟩
    go_wp2_with fail
    go_loopw [27] (fun i wr => ∃ kk : Nat, kk ≤ m ∧ i = .int .i64 kk ∧ Hid (chk ((fs.map fun x : Chk => x.2.2).drop kk) s = chk (fs.map fun x : Chk => x.2.2) s) ∧ Below w.heap.size w wr) (fun i _ => m - (intOf i).toNat)
    case atStart => exact ⟨0, by omega, rfl, rfl, hb1⟩
    case round =>
      obtain ⟨kk, hkm, rfl, HC, hB⟩ := hrel
      by_cases hlt : kk < m
      · have hkl : kk < fs.length := by omega
        obtain ⟨F, caps, E, hx⟩ : ∃ F caps E, fs[kk]'hkl = (F, caps, E) := ⟨_, _, _, rfl⟩
        obtain ⟨hF, hT⟩ := HE.out _ (List.getElem_mem hkl)
        rw [hx] at hF hT
        obtain ⟨ad, u, hA3, hu, hcell⟩ := (HF.out.below hB).at (k := kk) (by rw [List.length_map]; exact hkl)
        rw [List.getElem?_map, List.getElem?_eq_getElem hkl, hx] at hu
        obtain rfl : u = .func (.func F) #[] caps := by simpa [chkV] using hu.symm
        subst hA3
        have hF' : ∀ args w, (callFunc F args).run Tryd.prog w = .ok (.enter F args) w := hF
        have hC := hT s wr hsl hB
        simp only at hC
        have hEk : ((fs.map fun x : Chk => x.2.2)[kk]'(by rw [List.length_map]; exact hkl)) s = E s := by rw [List.getElem_map, hx]
        by_cases hz : E s = 0
        · have h2 := chk_zero (fs := fs.map fun x : Chk => x.2.2) (s := s) (k := kk) (by rw [List.length_map]; exact hkl) (hEk.trans hz)
          have HN := Lib.hid (h2.symm.trans HC.out)
          rw [hz] at hC
          have HCC := Lib.hid hC
          clear hC hz h2 hEk hu hx hT
          go_wp2_with fail
          refine HCC.out.mono ?_
          rintro e w2 ⟨rfl, hb2⟩
          have hB2 := hB.trans (hb2.mono hB.size)
          clear hb2
          go_wp2_with fail
          go_roundw
          case rel => exact ⟨kk + 1, by omega, by go_num, HN, hB2⟩
          case measure => simp [intOf]; omega
        · have h2 := chk_one (fs := fs.map fun x : Chk => x.2.2) (s := s) (k := kk) (by rw [List.length_map]; exact hkl) (by rw [hEk]; exact hz)
          rw [hEk] at h2
          have h3 := h2.symm.trans HC.out
          obtain ⟨e', hee⟩ : ∃ e', E s = e' := ⟨_, rfl⟩
          rw [hee] at hC hz h3
          have t1 : (e' != 0) = true := by simpa using hz
          have HN := Lib.hid (show trV (noT e') = V by rw [← HV.out, ← h3, if_pos hz])
          have HCC := Lib.hid hC
          clear hC hz h2 h3 hEk hu hx hT hee
          go_wp2_with fail
          refine HCC.out.mono ?_
          rintro e w2 ⟨rfl, hb2⟩
          have hB2 := hB.trans (hb2.mono hB.size)
          clear hb2
          go_wp2_with fail
          go_ret3
          exact ⟨by rw [← HN.out]; rfl, hB2⟩
      · obtain rfl : kk = m := by omega
        have HN := Lib.hid (show trV (s, y, 0) = V by
          have h := HC.out
          rw [List.drop_eq_nil_of_le (by rw [List.length_map]; omega)] at h
          rw [← HV.out, ← h, if_neg (by simp [chk])])
        go_wp2_with fail
        go_ret3
        exact ⟨by rw [← HN.out]; rfl, hB⟩
  · rw [if_pos h0]
    have hqe := hqe h0
    rw [hqe] at HQ
    rw [trV_no] at HQ ⊢
    have t1 : (e0 != 0) = true := by simpa using h0
    have H := Lib.hid HQ
    clear HQ hqe hql hq hs hf he h0
    go_enter Tryd.func64, Tryd.ntmps64
    go_wp2_with fail
    refine H.out.mono ?_
    rintro e w1 ⟨rfl, hb1⟩
    go_wp2_with fail
    go_ret3
    exact ⟨rfl, hb1⟩
end Go.Proofs.YtgbbccfoceifnaaDoor
