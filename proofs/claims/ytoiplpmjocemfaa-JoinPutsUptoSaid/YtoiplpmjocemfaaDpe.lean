/- All texts, one behind the other: by the document and by package diff. -/
import Derived.Test.YtoiplpmjocemfaaDfd
import Derived.Test.YtoiplpmjocemfaaBld
namespace Go.Proofs.Ytoiplpmjocemfaa
open Go.ChangeShapes Go.WideShapes Go.ChangeAt Go.RowKit
set_option linter.unusedVariables false
set_option maxRecDepth 100000

/-- The texts of the first events, one behind the other. -/
def textN (l : List Ev) : Nat → List UInt8
  | 0 => []
  | k + 1 => textN l k ++ (match l[k]? with | some e => if e.kind = 3 then e.tx.toList else [] | none => [])
theorem textN_at {l : List Ev} {k : Nat} {e : Ev} (h : l[k]? = some e) : textN l (k + 1) = textN l k ++ (if e.kind = 3 then e.tx.toList else []) := by rw [textN, h]
/-- How long all texts are. -/
def txLen (l : List Ev) : Nat → Nat
  | 0 => 0
  | k + 1 => txLen l k + (match l[k]? with | some e => e.tx.toList.length | none => 0)
theorem textN_len (l : List Ev) : ∀ k, (textN l k).length ≤ txLen l k
  | 0 => by simp [textN]
  | k + 1 => by
    have ih := textN_len l k
    rw [textN, txLen, List.length_append]
    split
    · split <;> simp <;> omega
    · simp; omega
theorem txLen_mono (l : List Ev) : ∀ {k m : Nat}, k ≤ m → txLen l k ≤ txLen l m := by
  intro k m h
  induction m with
  | zero => obtain rfl : k = 0 := by omega
            exact Nat.le_refl _
  | succ m ih =>
    rcases Nat.lt_or_ge m k with h1 | h1
    · obtain rfl : k = m + 1 := by omega
      exact Nat.le_refl _
    · have := ih h1
      rw [txLen]
      omega
theorem str_eta (s : ByteArray) : s = ⟨s.toList.toArray⟩ := by
  cases s with
  | mk d => simp [ByteArray.toList_eq] 

theorem tx_app (l m : List UInt8) : (⟨l.toArray⟩ : ByteArray) ++ ⟨m.toArray⟩ = ⟨(l ++ m).toArray⟩ := by
  apply ByteArray.ext
  simp [ByteArray.data_append]
theorem Bld.alloc {B b : Nat} {l : List UInt8} {w : World} (h : Bld B b l w) (o : Obj) : Bld B b l (w.alloc o) := by
  rcases h with ⟨hB, v, hb, ho, hne⟩ | ⟨hB, v, hb, ho, hne⟩
  · exact .inl ⟨hB, v, (Lib.alloc_old w o b (heap_lt hb)).trans hb, ho.alloc o, hne⟩
  · exact .inr ⟨hB, v, (Lib.alloc_old w o b (heap_lt hb)).trans hb, ho.alloc o, hne⟩

set_option maxHeartbeats 2000000 in
theorem rtext_any (l : List Ev) (A : Option Addr) (n c : Nat) (w : World) (hl : l.length = n) (hnc : n ≤ c) (hc9 : c ≤ 9223372036854775807) (hn9 : n ≤ 1000000) (ht : txLen l n ≤ 9223372036854775807) (hA : EvsOk w A l) :
    Calls Try.prog 60 #[.slice A n c] w fun e w' => e = .returned (.string ⟨(textN l n).toArray⟩) ∧ Below w.heap.size w w' := by
  have HL := Lib.hid hl
  have HA := Lib.hid hA
  clear hl hA
  go_enter Try.func60, Try.ntmps60
  go_wp2_with fail
  go_loopw [3, 4] (fun v i wr => ∃ j : Nat, j ≤ n ∧ i = .int .i64 j ∧ v = .string ⟨(textN l j).toArray⟩ ∧ Below w.heap.size w wr) (fun _ i _ => n - (intOf i).toNat)
  case atStart => exact ⟨0, by omega, rfl, rfl, Below.refl _ _⟩
  case round =>
    obtain ⟨j, hj, rfl, rfl, hbw⟩ := hrel
    by_cases hlt : j < n
    · obtain ⟨a, ha⟩ : ∃ a, l[j]? = some a := ⟨_, List.getElem?_eq_getElem (by rw [HL.out]; omega)⟩
      obtain ⟨x, rfl, x0, x1, x2, x3, x4⟩ := (HA.out.below hbw).sees.ev ha
      have HN := Lib.hid (textN_at ha)
      have h1 := textN_len l (j + 1)
      have h2 := txLen_mono l (show j + 1 ≤ n from hlt)
      have i0' : (0 : Int) ≤ (j : Int) := by omega
      have i1 : (j : Int) < (n : Int) := by omega
      clear ha x1 x2 x3
      by_cases hk1 : a.kind = 3
      · have t1 : (a.kind == 3) = true := by simpa using hk1
        have HS := Lib.hid (show textN l (j + 1) = textN l j ++ a.tx.toList by rw [HN.out, if_pos hk1])
        rw [HS.out, List.length_append] at h1
        obtain ⟨tx, htx⟩ : ∃ tx, a.tx.toList = tx := ⟨_, rfl⟩
        have hs : a.tx = ⟨tx.toArray⟩ := by rw [← htx]; exact str_eta _
        rw [hs] at x4
        rw [htx] at HS h1
        have h3 : ¬ 9223372036854775807 < (textN l j).length + tx.length := by omega
        clear hk1 htx hs h1 h2
        go_wp2_with fail
        go_roundw
        case rel => exact ⟨j + 1, by omega, by go_num, by rw [HS.out, ← tx_app], hbw⟩
        case measure => simp [intOf]; omega
      · have t1 : (a.kind == 3) = false := by simpa using hk1
        have HS := Lib.hid (show textN l (j + 1) = textN l j by rw [HN.out, if_neg hk1, List.append_nil])
        clear hk1 h1 h2
        go_wp2_with fail
        go_roundw
        case rel => exact ⟨j + 1, by omega, by go_num, by rw [HS.out], hbw⟩
        case measure => simp [intOf]; omega
    · obtain rfl : j = n := by omega
      go_wp2_with fail
      go_ret
      exact ⟨rfl, hbw⟩

set_option maxHeartbeats 2000000 in
theorem text_any (l : List Ev) (A : Option Addr) (n c : Nat) (w : World) (hl : l.length = n) (hnc : n ≤ c) (hc9 : c ≤ 9223372036854775807) (hn9 : n ≤ 1000000) (ht : txLen l n ≤ 140737488355328) (hA : EvsOk w A l) :
    Calls Try.prog 59 #[.slice A n c] w fun e w' => e = .returned (.string ⟨(textN l n).toArray⟩) ∧ Below w.heap.size w w' := by
  have HL := Lib.hid hl
  have HA := Lib.hid hA
  clear hl hA
  go_enter Try.func59, Try.ntmps59
  go_wp2_with fail
  go_loopw [8] (fun i wr => ∃ j : Nat, j ≤ n ∧ i = .int .i64 j ∧ Hid (Bld w.heap.size w.heap.size (textN l j) wr) ∧ Below w.heap.size w wr) (fun i _ => n - (intOf i).toNat)
  case atStart => exact ⟨0, by omega, rfl, Lib.hid (bld_made w), (Below.refl _ _).alloc (Nat.le_refl _) _⟩
  case round =>
    obtain ⟨j, hj, rfl, HB, hbw⟩ := hrel
    have hws := hbw.size
    by_cases hlt : j < n
    · obtain ⟨a, ha⟩ : ∃ a, l[j]? = some a := ⟨_, List.getElem?_eq_getElem (by rw [HL.out]; omega)⟩
      obtain ⟨x, rfl, x0, x1, x2, x3, x4⟩ := (HA.out.below hbw).sees.ev ha
      have HN := Lib.hid (textN_at ha)
      have h1 := textN_len l (j + 1)
      have h2 := txLen_mono l (show j + 1 ≤ n from hlt)
      have i0' : (0 : Int) ≤ (j : Int) := by omega
      have i1 : (j : Int) < (n : Int) := by omega
      clear ha
      by_cases hk1 : a.kind = 3
      · have t1 : (a.kind == 3) = true := by simpa using hk1
        have HS := Lib.hid (show textN l (j + 1) = textN l j ++ a.tx.toList by rw [HN.out, if_pos hk1])
        rw [HS.out, List.length_append] at h1
        obtain ⟨tx, htx⟩ : ∃ tx, a.tx.toList = tx := ⟨_, rfl⟩
        have hs : a.tx = ⟨tx.toArray⟩ := by rw [← htx]; exact str_eta _
        rw [hs] at x4
        rw [htx] at HS h1
        have KB := Lib.hid (bldStr_any w.heap.size w.heap.size (textN l j) tx (wr.alloc (.cells #[.int .i64 a.kind, .string a.sp, .string a.lo, .slice a.A a.at_.length a.c, .string ⟨tx.toArray⟩] 76)) (HB.out.alloc _) (by omega) (by simp; omega))
        clear hk1 htx hs h1 h2
        go_wp2_with fail
        refine KB.out.mono ?_
        rintro e w3 ⟨rfl, hB3, hb3⟩
        have HB3 := Lib.hid hB3
        clear hB3
        go_wp2_with fail
        go_roundw
        case rel => exact ⟨j + 1, by omega, by go_num, Lib.hid (by rw [HS.out]; exact HB3.out), (hbw.alloc hws _).trans hb3⟩
        case measure => simp [intOf]; omega
      · have t1 : (a.kind == 3) = false := by simpa using hk1
        have HS := Lib.hid (show textN l (j + 1) = textN l j by rw [HN.out, if_neg hk1, List.append_nil])
        clear hk1 h1 h2
        go_wp2_with fail
        go_roundw
        case rel => exact ⟨j + 1, by omega, by go_num, Lib.hid (by rw [HS.out]; exact HB.out.alloc _), hbw.alloc hws _⟩
        case measure => simp [intOf]; omega
    · obtain rfl : j = n := by omega
      go_wp2_with fail
      refine (bldGive_any w.heap.size w.heap.size (textN l j) wr HB.out hws).mono ?_
      rintro e w3 ⟨rfl, hb3⟩
      go_wp2_with fail
      go_ret
      exact ⟨rfl, hbw.trans hb3⟩
end Go.Proofs.Ytoiplpmjocemfaa
