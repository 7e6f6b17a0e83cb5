/- Texts between quotes, and the references of a text: what is read (pure). Contracts of package bytes over any bytes: IndexByte, Count of one byte, LastIndexByte, Clone. Texts between quotes: Quoted, by the program and by the document. Texts between quotes: Quoted, by the document. References of a text: behind, Refs, by the program. -/
import Derived.Lib.BytesEntry
import Derived.Laws.AppendOwn
import Derived.Laws.Externs
import Derived.OwnWalk
import Derived.Test.YtdmfladcldkmeaaDoorPkaa
import Derived.Test.YtdmfladcldkmeaaDoorPkah
namespace Go.Proofs.YtdmfladcldkmeaaDoor
open Go.ChangeShapes Go.WideShapes Go.ChangeAt Go.RowKit
set_option linter.unusedVariables false
set_option maxRecDepth 100000

theorem index_cases (l : List UInt8) (b : UInt8) : (Lib.indexByte l b = -1 ∧ ∀ k : Nat, l[k]? ≠ some b) ∨ ∃ i : Nat, Lib.indexByte l b = i ∧ i < l.length ∧ l[i]? = some b ∧ ∀ k < i, l[k]? ≠ some b := by
  have h := Lib.indexByte_ge l b
  by_cases h0 : Lib.indexByte l b = -1
  · exact .inl ⟨h0, Lib.indexByte_none h0⟩
  · obtain ⟨i, hi⟩ : ∃ i : Nat, Lib.indexByte l b = i := ⟨(Lib.indexByte l b).toNat, by omega⟩
    obtain ⟨h1, h2⟩ := Lib.indexByte_some hi
    exact .inr ⟨i, hi, (List.getElem?_eq_some_iff.1 h1).1, h1, h2⟩
/-- A byte at a place, as a number. -/
theorem at_iff {l : List UInt8} {k b : Nat} (hk : k < l.length) (hb : b < 256) : l[k]? = some (UInt8.ofNat b) ↔ byteAt l k = b := by
  unfold byteAt
  rw [List.getElem?_eq_getElem hk, Option.some_inj, Option.getD_some]
  constructor
  · rintro h; rw [h]; simp; omega
  · rintro rfl; simp

/-- A text, a place, an error, as results. -/
abbrev Trip := List UInt8 × Int × Int
def trV (x : Trip) : Value := .tuple #[strV x.1, .int .i64 x.2.1, .int .i64 x.2.2]
def noT (e : Int) : Trip := ([], 0, e)
theorem trV_no (e : Int) : trV (noT e) = .tuple #[.string ⟨#[]⟩, .int .i64 0, .int .i64 e] := rfl
/-- What stands between two quotes. -/
def quoT (l : List UInt8) (k : Int) : Trip :=
  if k < 0 ∨ (l.length : Int) < k then noT 3
  else if k.toNat = l.length ∨ (byteAt l k.toNat ≠ 34 ∧ byteAt l k.toNat ≠ 39) then noT 7
  else if Lib.indexByte (l.drop (k.toNat + 1)) (UInt8.ofNat (byteAt l k.toNat)) < 0 then noT 7
  else ((l.drop (k.toNat + 1)).take (Lib.indexByte (l.drop (k.toNat + 1)) (UInt8.ofNat (byteAt l k.toNat))).toNat,
    ((k.toNat + 1 + (Lib.indexByte (l.drop (k.toNat + 1)) (UInt8.ofNat (byteAt l k.toNat))).toNat + 1 : Nat) : Int), 0)
theorem quoT_out {l : List UInt8} {k : Int} (h : k < 0 ∨ (l.length : Int) < k) : quoT l k = noT 3 := by rw [quoT, if_pos h]
theorem quoT_not {l : List UInt8} {k : Nat} (hk : k ≤ l.length) (h : k = l.length ∨ (byteAt l k ≠ 34 ∧ byteAt l k ≠ 39)) : quoT l (k : Int) = noT 7 := by
  rw [quoT, if_neg (by omega), Int.toNat_natCast, if_pos h]
theorem quoT_open {l : List UInt8} {k b : Nat} (hk : k < l.length) (hb : byteAt l k = b) (h : b = 34 ∨ b = 39) (hi : Lib.indexByte (l.drop (k + 1)) (UInt8.ofNat b) < 0) : quoT l (k : Int) = noT 7 := by
  rw [quoT, if_neg (by omega), Int.toNat_natCast, if_neg (by rw [hb]; omega), hb, if_pos hi]
theorem quoT_ok {l : List UInt8} {k b i : Nat} (hk : k < l.length) (hb : byteAt l k = b) (h : b = 34 ∨ b = 39) (hi : Lib.indexByte (l.drop (k + 1)) (UInt8.ofNat b) = i) :
    quoT l (k : Int) = ((l.drop (k + 1)).take i, ((k + 1 + i + 1 : Nat) : Int), 0) := by
  rw [quoT, if_neg (by omega), Int.toNat_natCast, if_neg (by rw [hb]; omega), hb, hi, if_neg (by omega), Int.toNat_natCast]
theorem quoT_err (l : List UInt8) (k : Int) (h : (quoT l k).2.2 ≠ 0) : quoT l k = noT (quoT l k).2.2 := by
  unfold quoT at h ⊢
  split
  · rfl
  · next h1 =>
    rw [if_neg h1] at h
    split
    · rfl
    · next h2 =>
      rw [if_neg h2] at h
      split
      · rfl
      · next h3 =>
        rw [if_neg h3] at h
        exact absurd rfl h
theorem quoT_len (l : List UInt8) (k : Int) : (quoT l k).1.length ≤ l.length := by
  unfold quoT
  split
  · simp [noT]
  · split
    · simp [noT]
    · split
      · simp [noT]
      · simp only [List.length_take, List.length_drop]; omega

/-- A number among results. -/
def fldI (v : Value) (i : Nat) : Int := match v with | .tuple xs => intOf (xs.getD i undef) | _ => 0
/-- The place behind the reference at a place, and the error. -/
def bhN (l : List UInt8) (k : Nat) : Int × Int :=
  if k + 1 < l.length ∧ byteAt l (k + 1) = 35 then (fldI (chV l k) 1, fldI (chV l k) 2) else (fldI (entV l k 38) 1, fldI (entV l k 38) 2)
theorem digZ_le (l : List UInt8) (b : Int) : ∀ f k, k ≤ l.length → digZ l b f k ≤ l.length
  | 0, k, h => h
  | f + 1, k, h => by
    rw [digZ]
    split
    · next h1 => exact digZ_le l b f (k + 1) (by omega)
    · exact h
theorem crefD_go {l : List UInt8} {b : Int} {s : Nat} (hs : s ≤ l.length) (h : fldI (crefD l b s) 2 = 0) : ∃ m : Nat, fldI (crefD l b s) 1 = m ∧ s < m ∧ m ≤ l.length := by
  unfold crefD at h ⊢
  split
  · next h1 => rw [if_pos h1] at h; exact absurd h (by show (7 : Int) ≠ 0; omega)
  · next h1 =>
    rw [if_neg h1] at h
    split
    · next h2 => rw [if_pos h2] at h; exact absurd h (by show (6 : Int) ≠ 0; omega)
    · have hg := digZ_ge l b l.length s
      have hl := digZ_le l b l.length s hs
      exact ⟨digZ l b l.length s + 1, rfl, by omega, by omega⟩
theorem chV_go {l : List UInt8} {k : Nat} (hk : k < l.length) (h : fldI (chV l k) 2 = 0) : ∃ m : Nat, fldI (chV l k) 1 = m ∧ k < m ∧ m ≤ l.length := by
  unfold chV at h ⊢
  rw [if_neg (by omega)] at h ⊢
  rw [Int.toNat_natCast] at h ⊢
  split
  · next h1 => rw [if_pos h1] at h; exact absurd h (by show (7 : Int) ≠ 0; omega)
  · next h1 =>
    rw [if_neg h1] at h
    have hk3 : k + 3 ≤ l.length := by
      rcases Nat.lt_or_ge l.length (k + 3) with h2 | h2
      · exact absurd (.inl h2) h1
      · exact h2
    split
    · next h2 =>
      rw [if_pos h2] at h
      obtain ⟨m, a, b, c⟩ := crefD_go (by omega) h
      exact ⟨m, a, by omega, c⟩
    · next h2 =>
      rw [if_neg h2] at h
      obtain ⟨m, a, b, c⟩ := crefD_go (by omega) h
      exact ⟨m, a, by omega, c⟩
theorem entV_go {l : List UInt8} {k : Nat} (hk : k < l.length) (h : fldI (entV l k 38) 2 = 0) : ∃ m : Nat, fldI (entV l k 38) 1 = m ∧ k < m ∧ m ≤ l.length := by
  have hz := endN_le l (plainP charN) l.length (plainP startN) (k + 1) (by omega)
  rw [show endN l (plainP charN) l.length (plainP startN) (k + 1) = entZ l k from rfl] at hz
  unfold entV at h ⊢
  rw [if_neg (by omega)] at h ⊢
  rw [Int.toNat_natCast] at h ⊢
  split
  · next h1 => rw [if_pos h1] at h; exact absurd h (by show (7 : Int) ≠ 0; omega)
  · next h1 =>
    rw [if_neg h1] at h
    split
    · next h2 => rw [if_pos h2] at h; exact absurd h (by show (7 : Int) ≠ 0; omega)
    · next h2 =>
      rw [if_neg h2] at h
      split
      · next h3 => rw [if_pos h3] at h; exact absurd h (by show (11 : Int) ≠ 0; omega)
      · next h3 =>
        rw [if_neg h3] at h
        split
        · next h4 => rw [if_pos h4] at h; exact absurd h (by show (7 : Int) ≠ 0; omega)
        · next h4 => exact ⟨entZ l k + 1, rfl, by omega, by omega⟩
theorem bh_go {l : List UInt8} {k : Nat} (hk : k < l.length) (h : (bhN l k).2 = 0) : ∃ m : Nat, (bhN l k).1 = m ∧ k < m ∧ m ≤ l.length := by
  unfold bhN at h ⊢
  split
  · next h1 => rw [if_pos h1] at h; exact chV_go hk h
  · next h1 => rw [if_neg h1] at h; exact entV_go hk h

/-- The first place at which an "&" begins no reference, and the error. -/
def refsN (l : List UInt8) : Nat → Nat → Int × Int
  | 0, _ => (0, 0)
  | f + 1, k => if k < l.length then (if byteAt l k ≠ 38 then refsN l f (k + 1) else if (bhN l k).2 ≠ 0 then ((k : Int), (bhN l k).2) else refsN l f (bhN l k).1.toNat) else (0, 0)
theorem refs_end {l : List UInt8} (f k : Nat) (h : l.length ≤ k) : refsN l f k = (0, 0) := by
  cases f with
  | zero => rfl
  | succ f => rw [refsN, if_neg (by omega)]
theorem refs_one {l : List UInt8} (f k : Nat) (h : k < l.length) (hb : byteAt l k ≠ 38) : refsN l (f + 1) k = refsN l f (k + 1) := by rw [refsN, if_pos h, if_pos hb]
theorem refs_err {l : List UInt8} (f k : Nat) (h : k < l.length) (hb : byteAt l k = 38) (he : (bhN l k).2 ≠ 0) : refsN l (f + 1) k = ((k : Int), (bhN l k).2) := by
  rw [refsN, if_pos h, if_neg (by omega), if_pos he]
theorem refs_on {l : List UInt8} (f k m : Nat) (h : k < l.length) (hb : byteAt l k = 38) (he : (bhN l k).2 = 0) (hm : (bhN l k).1 = m) : refsN l (f + 1) k = refsN l f m := by
  rw [refsN, if_pos h, if_neg (by omega), if_neg (by rw [he]; simp), hm, Int.toNat_natCast]
theorem refs_skip {l : List UInt8} (m : Nat) : ∀ (f k : Nat), m ≤ f → k + m ≤ l.length → (∀ j, j < m → byteAt l (k + j) ≠ 38) → refsN l f k = refsN l (f - m) (k + m) := by
  induction m with
  | zero => intro f k _ _ _; rfl
  | succ m ih =>
    intro f k hf hk h
    obtain ⟨g, rfl⟩ : ∃ g, f = g + 1 := ⟨f - 1, by omega⟩
    have h0 := h 0 (by omega)
    rw [Nat.add_zero] at h0
    rw [refs_one g k (by omega) h0, ih g (k + 1) (by omega) (by omega) (fun j hj => by have := h (j + 1) (by omega); rwa [show k + 1 + j = k + (j + 1) by omega])]
    congr 1 <;> omega
theorem refs_none {l : List UInt8} (f k : Nat) (h : ∀ j, k ≤ j → j < l.length → byteAt l j ≠ 38) : refsN l f k = (0, 0) := by
  induction f generalizing k with
  | zero => rfl
  | succ f ih =>
    by_cases hk : k < l.length
    · rw [refs_one f k hk (h k (Nat.le_refl _) hk)]
      exact ih (k + 1) (fun j h1 h2 => h j (by omega) h2)
    · exact refs_end _ _ (by omega)
def refsV (l : List UInt8) : Value := .tuple #[.int .i64 (refsN l l.length 0).1, .int .i64 (refsN l l.length 0).2]

/-- The error of the first check that has one. -/
def chk : List (List UInt8 → Int) → List UInt8 → Int
  | [], _ => 0
  | f :: fs, s => if f s ≠ 0 then f s else chk fs s
def chkT (fs : List (List UInt8 → Int)) (x : Trip) : Trip := if x.2.2 ≠ 0 then noT x.2.2 else if chk fs x.1 ≠ 0 then noT (chk fs x.1) else (x.1, x.2.1, 0)
def withoutE (c : Nat) (s : List UInt8) : Int := if 0 ≤ Lib.indexByte s (UInt8.ofNat c) then 7 else 0
def refsE (s : List UInt8) : Int := (refsN s s.length 0).2
end Go.Proofs.YtdmfladcldkmeaaDoor
namespace Go.Proofs.YtdmfladcldkmeaaDoor
open Go.ChangeShapes Go.WideShapes Go.ChangeAt Go.RowKit
set_option linter.unusedVariables false

/-- Bytes as numbers. -/
def nB (l : List UInt8) : List Int := l.map fun c => (c.toNat : Int)
theorem nB_len (l : List UInt8) : (nB l).length = l.length := by unfold nB; simp
theorem bytesOf_nB (l : List UInt8) : Lib.bytesOf (nB l) = l := by
  unfold Lib.bytesOf nB
  rw [List.map_map]
  conv => rhs; rw [← List.map_id l]
  apply List.map_congr_left
  intro c _
  simp
theorem sees_nB {w : World} {ad : Addr} {l : List UInt8} (hs : Sees w (some ad) (vB l)) (hl : l ≠ []) : ∀ j x, (nB l)[j]? = some x → w.cell? (ad.add j) = some (.int .u8 x) := by
  intro j x hx
  obtain ⟨a2, e, hc⟩ := hs (by unfold vB; intro h; exact hl (by simpa using h))
  injection e with e
  subst e
  unfold nB at hx
  rw [List.getElem?_map] at hx
  cases hj : l[j]? with
  | none => rw [hj] at hx; cases hx
  | some c =>
    rw [hj] at hx
    injection hx with hx
    exact hc j _ (by unfold vB; rw [List.getElem?_map, hj, ← hx]; rfl)

theorem run_loadB (w : World) (A : Option Addr) (n c : Nat) (l : List UInt8) (hn : l.length = n) (hs : Sees w A (vB l)) :
    (Extern.Bytes.bytesOf (.slice A n c)).run Tryd.prog w = .ok ⟨l.toArray⟩ w := by
  cases A with
  | none =>
    have : l = [] := by
      cases l with
      | nil => rfl
      | cons x l => obtain ⟨_, e, _⟩ := hs (by simp [vB]); cases e
    subst this
    rfl
  | some ad =>
    by_cases hl : l = []
    · subst hl
      simp only [List.length_nil] at hn
      subst hn
      rfl
    · have := Lib.run_loadBytesX (P := Tryd.prog) w (nB l) ad .empty (sees_nB hs hl)
      rw [nB_len, hn, bytesOf_nB] at this
      have he : (⟨ByteArray.empty.data ++ l.toArray⟩ : ByteArray) = ⟨l.toArray⟩ := by
        apply ByteArray.ext
        show (#[] : Array UInt8) ++ l.toArray = l.toArray
        simp
      rw [he] at this
      exact this
theorem bytesOf_str (w : World) (s : ByteArray) : (Extern.Bytes.bytesOf (.string s)).run Tryd.prog w = .ok s w := rfl

theorem run_indexB (w : World) (A : Option Addr) (n c : Nat) (l : List UInt8) (cv : Int) (hn : l.length = n) (hs : Sees w A (vB l)) :
    (Extern.BytealgIndexByte.indexByte #[.slice A n c, .int .u8 cv]).run Tryd.prog w = .ok (.int .i64 (Lib.indexByte l cv.toNat.toUInt8)) w := by
  have hl := run_loadB w A n c l hn hs
  have h2 := Lib.run_indexByteString (P := Tryd.prog) ⟨l.toArray⟩ cv w
  change Sem.run Tryd.prog (do
    let b ← Extern.Bytes.bytesOf (.slice A n c)
    let c ← Extern.Bytes.asByte (.int .u8 cv)
    match (List.range b.size).find? fun i => b[i]! == c with
    | some i => pure (goInt i)
    | none => pure (goInt (-1))) w = _
  change Sem.run Tryd.prog (do
    let b ← Extern.Bytes.bytesOf (.string ⟨l.toArray⟩)
    let c ← Extern.Bytes.asByte (.int .u8 cv)
    match (List.range b.size).find? fun i => b[i]! == c with
    | some i => pure (goInt i)
    | none => pure (goInt (-1))) w = _ at h2
  simp only [Sem.run_bind, hl, bytesOf_str, Result.andThen] at h2 ⊢
  exact h2

set_option maxHeartbeats 1000000 in
set_option maxRecDepth 100000 in
theorem bIndex_any (w : World) (A : Option Addr) (n c : Nat) (l : List UInt8) (cv : Int) (hn : l.length = n) (hs : Sees w A (vB l)) :
    Calls Tryd.prog 138 #[.slice A n c, .int .u8 cv] w fun e w' => e = .returned (.int .i64 (Lib.indexByte l cv.toNat.toUInt8)) ∧ w = w' := by
  have H := Lib.hid (run_indexB w A n c l cv hn hs)
  clear hn hs
  go_enter Tryd.func138, Tryd.ntmps138
  go_wp2
  rw [run_callFunc_extern Tryd.func163 (by kernel_rfl) (by kernel_rfl) (by kernel_rfl) (e := Extern.BytealgIndexByte.indexByte) (by kernel_rfl), H.out]
  simp only [Result.andThen]
  rw [Oper.upon_value]
  go_wp2
  go_ret
  exact ⟨rfl, rfl⟩
end Go.Proofs.YtdmfladcldkmeaaDoor
namespace Go.Proofs.YtdmfladcldkmeaaDoor
open Go.ChangeShapes Go.WideShapes Go.ChangeAt Go.RowKit
set_option linter.unusedVariables false
set_option maxRecDepth 100000

theorem ret_t3 {s : ByteArray} {a b e : Int} (h : a = b) : Ending.returned (.tuple #[.string s, .int .i64 a, .int .i64 e]) = .returned (.tuple #[.string s, .int .i64 b, .int .i64 e]) := by rw [h]
/-- The first place from k on where byte b stands, or the end. -/
def scanN (l : List UInt8) (b : Nat) : Nat → Nat → Nat
  | 0, k => k
  | f + 1, k => if k < l.length ∧ byteAt l k ≠ b then scanN l b f (k + 1) else k
theorem scan_out {l : List UInt8} {b : Nat} (f k : Nat) (h : l.length ≤ k ∨ byteAt l k = b) : scanN l b f k = k := by
  cases f with
  | zero => rfl
  | succ f => rw [scanN, if_neg (by omega)]
theorem scan_on {l : List UInt8} {b : Nat} (f k : Nat) (h : k < l.length) (hb : byteAt l k ≠ b) : scanN l b (f + 1) k = scanN l b f (k + 1) := by rw [scanN, if_pos ⟨h, hb⟩]
theorem scan_skip {l : List UInt8} {b : Nat} (m : Nat) : ∀ (f k : Nat), m ≤ f → k + m ≤ l.length → (∀ j, j < m → byteAt l (k + j) ≠ b) → scanN l b f k = scanN l b (f - m) (k + m) := by
  induction m with
  | zero => intro f k _ _ _; rfl
  | succ m ih =>
    intro f k hf hk h
    obtain ⟨g, rfl⟩ : ∃ g, f = g + 1 := ⟨f - 1, by omega⟩
    have h0 := h 0 (by omega)
    rw [Nat.add_zero] at h0
    rw [scan_on g k (by omega) h0, ih g (k + 1) (by omega) (by omega) (fun j hj => by have := h (j + 1) (by omega); rwa [show k + 1 + j = k + (j + 1) by omega])]
    congr 1 <;> omega
theorem byte_drop (l : List UInt8) (a j : Nat) : byteAt (l.drop a) j = byteAt l (a + j) := by unfold byteAt; rw [List.getElem?_drop]
/-- Where the search ends, and what IndexByte says. -/
theorem scan_ix {l : List UInt8} {b a : Nat} (hb : b < 256) (ha : a ≤ l.length) :
    (Lib.indexByte (l.drop a) (UInt8.ofNat b) = -1 ∧ scanN l b l.length a = l.length) ∨ ∃ i : Nat, Lib.indexByte (l.drop a) (UInt8.ofNat b) = i ∧ a + i < l.length ∧ scanN l b l.length a = a + i ∧ byteAt l (a + i) = b := by
  rcases index_cases (l.drop a) (UInt8.ofNat b) with ⟨h, hno⟩ | ⟨i, h, hi, hat, hno⟩
  · left
    refine ⟨h, ?_⟩
    rw [scan_skip (l.length - a) l.length a (by omega) (by omega) (fun j hj hbj => hno j ((at_iff (by rw [List.length_drop]; exact hj) hb).2 (by rw [byte_drop]; exact hbj)))]
    rw [show a + (l.length - a) = l.length by omega]
    exact scan_out _ _ (.inl (Nat.le_refl _))
  · right
    rw [List.length_drop] at hi
    have hbi := (at_iff (by rw [List.length_drop]; exact hi) hb).1 hat
    rw [byte_drop] at hbi
    refine ⟨i, h, by omega, ?_, hbi⟩
    rw [scan_skip i l.length a (by omega) (by omega) (fun j hj hbj => hno j hj ((at_iff (by rw [List.length_drop]; omega) hb).2 (by rw [byte_drop]; exact hbj)))]
    exact scan_out _ _ (.inr hbi)
set_option maxHeartbeats 4000000 in
theorem quoted_34 (l : List UInt8) (ad : Addr) (n c j : Nat) (w : World) (hn : l.length = n) (hnc : n ≤ c) (hm : c ≤ 9223372036854775807) (hn9 : n ≤ 1000000) (hs : Sees w (some ad) (vB l)) (hjl : j < n)
    (hcell : w.cell? (ad.add j) = some (.int .u8 34)) (hb : byteAt l j = 34) :
    Calls Tryd.prog 123 #[.slice (some ad) n c, .int .i64 (j : Int)] w fun e w' => e = .returned (trV (quoT l (j : Int))) ∧ Below w.heap.size w w' := by
  have hjne : j ≠ n := by omega
  obtain ⟨ix, hix⟩ : ∃ ix, Lib.indexByte (l.drop (j + 1)) (UInt8.ofNat 34) = ix := ⟨_, rfl⟩
  have HI : ∀ A2 w', Sees w' A2 (vB (l.drop (j + 1))) → Calls Tryd.prog 138 #[.slice A2 (n - (j + 1)) (c - (j + 1)), .int .u8 34] w' fun e w'' => e = .returned (.int .i64 ix) ∧ w' = w'' := fun A2 w' hs' => by
    have := bIndex_any w' A2 (n - (j + 1)) (c - (j + 1)) (l.drop (j + 1)) 34 (by rw [List.length_drop, hn]) hs'
    rw [show ((34 : Int).toNat.toUInt8) = UInt8.ofNat 34 from rfl, hix] at this
    exact this
  have hs2 := hs.drop (k := j + 1) (cap := c) (by rw [vB_len]; omega)
  rw [← vB_drop] at hs2
  have HS := Lib.hid hs
  by_cases hcj : c = j + 1
  · have hnil : l.drop (j + 1) = [] := List.drop_eq_nil_of_le (by omega)
    rw [hnil] at hix
    have hneg : ix = -1 := by rw [← hix]; rfl
    subst hneg
    rw [quoT_open (by omega) hb (by omega) (by rw [hnil, hix]; omega), trV_no]
    rw [if_pos hcj] at hs2
    have hq := fun m => quiet_l (HI (some ad) (w.drewN m) (hs2.drewN m))
    have hnj : n = j + 1 := by omega
    rw [hnj, hcj] at hq
    simp only [Nat.sub_self] at hq
    have HQ := Lib.hid hq
    have HNJ := Lib.hid hnj
    clear hs hs2 hq hb hn hnil HI hix
    subst hcj
    obtain rfl := HNJ.out
    go_enter Tryd.func123, Tryd.ntmps123
    go_wp2_with fail
    go_quiet ((go_at_call 138; exact HQ.out _))
    go_wp2_with fail
    go_ret3
    exact ⟨rfl, below_drw (Below.refl _ _) _⟩
  · rw [if_neg hcj] at hs2
    have hq := fun m => quiet_l (HI (some (ad.add (j + 1))) (w.drewN m) (hs2.drewN m))
    by_cases hneg : ix < 0
    · rw [quoT_open (by omega) hb (by omega) (by rw [hix]; exact hneg), trV_no]
      have HQ := Lib.hid hq
      clear hs hs2 hq hb hn HI hix
      go_enter Tryd.func123, Tryd.ntmps123
      go_wp2_with fail
      go_quiet ((go_at_call 138; exact HQ.out _))
      go_wp2_with fail
      go_ret3
      exact ⟨rfl, below_drw (Below.refl _ _) _⟩
    · obtain ⟨i, rfl⟩ : ∃ i : Nat, ix = i := ⟨ix.toNat, by omega⟩
      have hil : i < n - (j + 1) := by
        rcases index_cases (l.drop (j + 1)) (UInt8.ofNat 34) with ⟨h, _⟩ | ⟨i', h, h1, _⟩
        · omega
        · rw [List.length_drop, hn] at h1; omega
      rw [quoT_ok (by omega) hb (by omega) hix]
      have hp : Sees w (some (ad.add (j + 1))) (vB ((l.drop (j + 1)).take i)) := by rw [vB_take]; exact hs2.take i
      obtain ⟨T, hT⟩ : ∃ T, (l.drop (j + 1)).take i = T := ⟨_, rfl⟩
      rw [hT] at hp ⊢
      have hTl : T.length = i := by rw [← hT, List.length_take, List.length_drop]; omega
      have KC := Lib.hid (fun m => add1_at ad j ▸ conv_sees (w.drewN m) (some (ad.add (j + 1))) i (c - (j + 1)) T hTl (hp.drewN m))
      unfold trV
      have HQ := Lib.hid hq
      clear hs hs2 hq hb hn HI hix hp hT hTl
      go_enter Tryd.func123, Tryd.ntmps123
      go_wp2_with fail
      go_quiet ((go_at_call 138; exact HQ.out _))
      have kc := KC.out
      go_wp2_with fail
      go_ret3
      exact ⟨ret_t3 (by omega), below_drw (Below.refl _ _) _⟩

set_option maxHeartbeats 4000000 in
theorem quoted_39 (l : List UInt8) (ad : Addr) (n c j : Nat) (w : World) (hn : l.length = n) (hnc : n ≤ c) (hm : c ≤ 9223372036854775807) (hn9 : n ≤ 1000000) (hs : Sees w (some ad) (vB l)) (hjl : j < n)
    (hcell : w.cell? (ad.add j) = some (.int .u8 39)) (hb : byteAt l j = 39) :
    Calls Tryd.prog 123 #[.slice (some ad) n c, .int .i64 (j : Int)] w fun e w' => e = .returned (trV (quoT l (j : Int))) ∧ Below w.heap.size w w' := by
  have hjne : j ≠ n := by omega
  obtain ⟨ix, hix⟩ : ∃ ix, Lib.indexByte (l.drop (j + 1)) (UInt8.ofNat 39) = ix := ⟨_, rfl⟩
  have HI : ∀ A2 w', Sees w' A2 (vB (l.drop (j + 1))) → Calls Tryd.prog 138 #[.slice A2 (n - (j + 1)) (c - (j + 1)), .int .u8 39] w' fun e w'' => e = .returned (.int .i64 ix) ∧ w' = w'' := fun A2 w' hs' => by
    have := bIndex_any w' A2 (n - (j + 1)) (c - (j + 1)) (l.drop (j + 1)) 39 (by rw [List.length_drop, hn]) hs'
    rw [show ((39 : Int).toNat.toUInt8) = UInt8.ofNat 39 from rfl, hix] at this
    exact this
  have hs2 := hs.drop (k := j + 1) (cap := c) (by rw [vB_len]; omega)
  rw [← vB_drop] at hs2
  have HS := Lib.hid hs
  by_cases hcj : c = j + 1
  · have hnil : l.drop (j + 1) = [] := List.drop_eq_nil_of_le (by omega)
    rw [hnil] at hix
    have hneg : ix = -1 := by rw [← hix]; rfl
    subst hneg
    rw [quoT_open (by omega) hb (by omega) (by rw [hnil, hix]; omega), trV_no]
    rw [if_pos hcj] at hs2
    have hq := fun m => quiet_l (HI (some ad) (w.drewN m) (hs2.drewN m))
    have hnj : n = j + 1 := by omega
    rw [hnj, hcj] at hq
    simp only [Nat.sub_self] at hq
    have HQ := Lib.hid hq
    have HNJ := Lib.hid hnj
    clear hs hs2 hq hb hn hnil HI hix
    subst hcj
    obtain rfl := HNJ.out
    go_enter Tryd.func123, Tryd.ntmps123
    go_wp2_with fail
    go_quiet ((go_at_call 138; exact HQ.out _))
    go_wp2_with fail
    go_ret3
    exact ⟨rfl, below_drw (Below.refl _ _) _⟩
  · rw [if_neg hcj] at hs2
    have hq := fun m => quiet_l (HI (some (ad.add (j + 1))) (w.drewN m) (hs2.drewN m))
    by_cases hneg : ix < 0
    · rw [quoT_open (by omega) hb (by omega) (by rw [hix]; exact hneg), trV_no]
      have HQ := Lib.hid hq
      clear hs hs2 hq hb hn HI hix
      go_enter Tryd.func123, Tryd.ntmps123
      go_wp2_with fail
      go_quiet ((go_at_call 138; exact HQ.out _))
      go_wp2_with fail
      go_ret3
      exact ⟨rfl, below_drw (Below.refl _ _) _⟩
    · obtain ⟨i, rfl⟩ : ∃ i : Nat, ix = i := ⟨ix.toNat, by omega⟩
      have hil : i < n - (j + 1) := by
        rcases index_cases (l.drop (j + 1)) (UInt8.ofNat 39) with ⟨h, _⟩ | ⟨i', h, h1, _⟩
        · omega
        · rw [List.length_drop, hn] at h1; omega
      rw [quoT_ok (by omega) hb (by omega) hix]
      have hp : Sees w (some (ad.add (j + 1))) (vB ((l.drop (j + 1)).take i)) := by rw [vB_take]; exact hs2.take i
      obtain ⟨T, hT⟩ : ∃ T, (l.drop (j + 1)).take i = T := ⟨_, rfl⟩
      rw [hT] at hp ⊢
      have hTl : T.length = i := by rw [← hT, List.length_take, List.length_drop]; omega
      have KC := Lib.hid (fun m => add1_at ad j ▸ conv_sees (w.drewN m) (some (ad.add (j + 1))) i (c - (j + 1)) T hTl (hp.drewN m))
      unfold trV
      have HQ := Lib.hid hq
      clear hs hs2 hq hb hn HI hix hp hT hTl
      go_enter Tryd.func123, Tryd.ntmps123
      go_wp2_with fail
      go_quiet ((go_at_call 138; exact HQ.out _))
      have kc := KC.out
      go_wp2_with fail
      go_ret3
      exact ⟨ret_t3 (by omega), below_drw (Below.refl _ _) _⟩

set_option maxHeartbeats 4000000 in
theorem quoted_any (l : List UInt8) (A : Option Addr) (n c : Nat) (k : Int) (w : World)
    (hn : l.length = n) (hnc : n ≤ c) (hm : c ≤ 9223372036854775807) (hk : I64 k) (hn9 : n ≤ 1000000) (hs : Sees w A (vB l)) :
    Calls Tryd.prog 123 #[.slice A n c, .int .i64 k] w fun e w' => e = .returned (trV (quoT l k)) ∧ Below w.heap.size w w' := by
  have hkl := hk.1
  have hkh := hk.2
  by_cases hout : k < 0 ∨ (n : Int) < k
  · rw [quoT_out (by rw [hn]; exact hout), trV_no]
    rcases hout with h0 | h0
    all_goals
      go_enter Tryd.func123, Tryd.ntmps123
      go_wp2_with fail
      go_ret3
      exact ⟨rfl, Below.refl _ _⟩
  · obtain ⟨j, rfl⟩ : ∃ j : Nat, k = j := ⟨k.toNat, by omega⟩
    have hj : j ≤ n := by omega
    by_cases hjn : j = n
    · rw [quoT_not (by omega) (.inl (by omega)), trV_no]
      subst hjn
      go_enter Tryd.func123, Tryd.ntmps123
      go_wp2_with fail
      go_ret3
      exact ⟨rfl, Below.refl _ _⟩
    · have hjl : j < n := by omega
      obtain ⟨ad, rfl, hcell⟩ := hs.byte (k := j) (by omega)
      obtain ⟨b, hb⟩ : ∃ b, byteAt l j = b := ⟨_, rfl⟩
      have hb256 := byteAt_lt l j
      rw [hb] at hcell hb256
      have hjne : j ≠ n := by omega
      by_cases hq : b = 34 ∨ b = 39
      · rcases hq with rfl | rfl
        · exact quoted_34 l ad n c j w hn hnc hm hn9 hs hjl hcell hb
        · exact quoted_39 l ad n c j w hn hnc hm hn9 hs hjl hcell hb
      · rw [quoT_not (by omega) (.inr (by rw [hb]; omega)), trV_no]
        have t34 : ((b : Int) != 34) = true := by simp; omega
        have t39 : ((b : Int) != 39) = true := by simp; omega
        clear hs hb hq
        go_enter Tryd.func123, Tryd.ntmps123
        go_wp2_with fail
        go_ret3
        exact ⟨rfl, Below.refl _ _⟩
end Go.Proofs.YtdmfladcldkmeaaDoor
namespace Go.Proofs.YtdmfladcldkmeaaDoor
open Go.ChangeShapes Go.WideShapes Go.ChangeAt Go.RowKit
set_option linter.unusedVariables false
set_option maxRecDepth 100000

set_option maxHeartbeats 4000000 in
theorem rquoted_34 (l : List UInt8) (ad : Addr) (n c j : Nat) (w : World) (hn : l.length = n) (hnc : n ≤ c) (hm : c ≤ 9223372036854775807) (hn9 : n ≤ 1000000) (hs : Sees w (some ad) (vB l)) (hjl : j < n)
    (hcell : w.cell? (ad.add j) = some (.int .u8 34)) (hb : byteAt l j = 34) :
    Calls Tryd.prog 114 #[.slice (some ad) n c, .int .i64 (j : Int)] w fun e w' => e = .returned (trV (quoT l (j : Int))) ∧ Below w.heap.size w w' := by
  have hjne : j ≠ n := by omega
  obtain ⟨R, hR⟩ : ∃ R, quoT l (j : Int) = R := ⟨_, rfl⟩
  have HEND : Hid (scanN l 34 l.length (j + 1) = l.length → noT 7 = R) := by
    unfold Hid
    intro h
    rcases scan_ix (l := l) (b := 34) (a := j + 1) (by omega) (by omega) with ⟨h1, h2⟩ | ⟨i, h1, h2, h3, h4⟩
    · rw [← hR, quoT_open (by omega) hb (by omega) (by rw [h1]; omega)]
    · omega
  have HAT : Hid (∀ z, scanN l 34 l.length (j + 1) = z → z < l.length → ((l.drop (j + 1)).take (z - (j + 1)), ((z + 1 : Nat) : Int), (0 : Int)) = R) := by
    unfold Hid
    intro z h hz
    rcases scan_ix (l := l) (b := 34) (a := j + 1) (by omega) (by omega) with ⟨h1, h2⟩ | ⟨i, h1, h2, h3, h4⟩
    · omega
    · rw [← hR, quoT_ok (by omega) hb (by omega) h1]
      obtain rfl : z = j + 1 + i := by omega
      rw [Nat.add_sub_cancel_left]
  rw [hR]
  have HN := Lib.hid hn
  have HS := Lib.hid hs
  have HC0 := Lib.hid hcell
  clear hs hn hR hb
  have d2 : decide (n < j) = false := by simp; omega
  have d3 : decide ((j : Int) = (n : Int)) = false := by simp; omega
  go_enter Tryd.func114, Tryd.ntmps114
  go_wp2_with fail
  go_loopw [7] (fun i wr => ∃ kk f m : Nat, n ≤ kk + f ∧ j + 1 ≤ kk ∧ kk ≤ n ∧ i = .int .i64 kk ∧ Hid (scanN l 34 f kk = scanN l 34 l.length (j + 1)) ∧ wr = w.drewN m) (fun i _ => n - (intOf i).toNat)
  case atStart => exact ⟨j + 1, n, 0, by omega, Nat.le_refl _, by omega, by go_num, by unfold Hid; rw [HN.out], rfl⟩
  case round =>
    obtain ⟨kk, f, m, hnf, hjk, hkn, rfl, HZ, rfl⟩ := hrel
    have hcj := HC0.out
    by_cases hlt : kk < n
    · obtain ⟨ad3, e3, hcell4⟩ := HS.out.byte (k := kk) (by rw [HN.out]; exact hlt)
      injection e3 with e3
      subst e3
      obtain ⟨d, hd⟩ : ∃ d, byteAt l kk = d := ⟨_, rfl⟩
      have hd256 := byteAt_lt l kk
      rw [hd] at hcell4 hd256
      have HD := Lib.hid hd
      by_cases hdb : d = 34
      · have t1 : ((d : Int) == 34) = true := by rw [hdb]; rfl
        have hz := HZ.out
        rw [scan_out f kk (.inr (by rw [hd]; exact hdb))] at hz
        have HR := Lib.hid (HAT.out kk hz.symm (by rw [HN.out]; exact hlt))
        have hp : Sees w (some (ad.add (j + 1))) (vB ((l.drop (j + 1)).take (kk - (j + 1)))) := by
          have h1 := HS.out.drop (k := j + 1) (cap := c) (by rw [vB_len, HN.out]; omega)
          rw [if_neg (by omega), ← vB_drop] at h1
          rw [vB_take]
          exact h1.take _
        obtain ⟨T, hT⟩ : ∃ T, (l.drop (j + 1)).take (kk - (j + 1)) = T := ⟨_, rfl⟩
        rw [hT] at hp HR
        have hTl : T.length = kk - (j + 1) := by rw [← hT, List.length_take, List.length_drop, HN.out]; omega
        have KC := Lib.hid (fun m => add1_at ad j ▸ conv_sees (w.drewN m) (some (ad.add (j + 1))) (kk - (j + 1)) (c - (j + 1)) T hTl (hp.drewN m))
        have hcc : ¬ c = j + 1 := by omega
        clear hd hdb hz hp hT hTl
        go_wp2_with fail
        go_quiet (fail)
        have kc := KC.out
        go_wp2_with fail
        go_ret3
        exact ⟨by rw [← HR.out]; exact ret_t3 (by show (kk : Int) + 1 = ((kk + 1 : Nat) : Int); omega), below_drw (Below.refl _ _) _⟩
      · have t1 : ((d : Int) == 34) = false := by simp; omega
        obtain ⟨g, rfl⟩ : ∃ g, f = g + 1 := ⟨f - 1, by omega⟩
        have hz := HZ.out
        rw [scan_on g kk (by rw [HN.out]; exact hlt) (by rw [hd]; exact hdb)] at hz
        have Hz := Lib.hid hz
        clear hd hdb hz
        go_wp2_with fail
        go_quiet (fail)
        go_wp2_with fail
        go_roundw
        case rel => exact ⟨kk + 1, g, _, by omega, by omega, by omega, by go_num, Hz, (by first | rfl | exact World.drewN_drewN)⟩
        case measure => simp [intOf]; omega
    · obtain rfl : kk = n := by omega
      have hz := HZ.out
      rw [scan_out f kk (.inl (by rw [HN.out]; exact Nat.le_refl _))] at hz
      have HR := Lib.hid (HEND.out (by rw [← hz]; exact HN.out.symm))
      clear hz
      go_wp2_with fail
      go_ret3
      exact ⟨by rw [← HR.out]; rfl, below_drw (Below.refl _ _) _⟩

set_option maxHeartbeats 4000000 in
theorem rquoted_39 (l : List UInt8) (ad : Addr) (n c j : Nat) (w : World) (hn : l.length = n) (hnc : n ≤ c) (hm : c ≤ 9223372036854775807) (hn9 : n ≤ 1000000) (hs : Sees w (some ad) (vB l)) (hjl : j < n)
    (hcell : w.cell? (ad.add j) = some (.int .u8 39)) (hb : byteAt l j = 39) :
    Calls Tryd.prog 114 #[.slice (some ad) n c, .int .i64 (j : Int)] w fun e w' => e = .returned (trV (quoT l (j : Int))) ∧ Below w.heap.size w w' := by
  have hjne : j ≠ n := by omega
  obtain ⟨R, hR⟩ : ∃ R, quoT l (j : Int) = R := ⟨_, rfl⟩
  have HEND : Hid (scanN l 39 l.length (j + 1) = l.length → noT 7 = R) := by
    unfold Hid
    intro h
    rcases scan_ix (l := l) (b := 39) (a := j + 1) (by omega) (by omega) with ⟨h1, h2⟩ | ⟨i, h1, h2, h3, h4⟩
    · rw [← hR, quoT_open (by omega) hb (by omega) (by rw [h1]; omega)]
    · omega
  have HAT : Hid (∀ z, scanN l 39 l.length (j + 1) = z → z < l.length → ((l.drop (j + 1)).take (z - (j + 1)), ((z + 1 : Nat) : Int), (0 : Int)) = R) := by
    unfold Hid
    intro z h hz
    rcases scan_ix (l := l) (b := 39) (a := j + 1) (by omega) (by omega) with ⟨h1, h2⟩ | ⟨i, h1, h2, h3, h4⟩
    · omega
    · rw [← hR, quoT_ok (by omega) hb (by omega) h1]
      obtain rfl : z = j + 1 + i := by omega
      rw [Nat.add_sub_cancel_left]
  rw [hR]
  have HN := Lib.hid hn
  have HS := Lib.hid hs
  have HC0 := Lib.hid hcell
  clear hs hn hR hb
  have d2 : decide (n < j) = false := by simp; omega
  have d3 : decide ((j : Int) = (n : Int)) = false := by simp; omega
  go_enter Tryd.func114, Tryd.ntmps114
  go_wp2_with fail
  go_loopw [7] (fun i wr => ∃ kk f m : Nat, n ≤ kk + f ∧ j + 1 ≤ kk ∧ kk ≤ n ∧ i = .int .i64 kk ∧ Hid (scanN l 39 f kk = scanN l 39 l.length (j + 1)) ∧ wr = w.drewN m) (fun i _ => n - (intOf i).toNat)
  case atStart => exact ⟨j + 1, n, 0, by omega, Nat.le_refl _, by omega, by go_num, by unfold Hid; rw [HN.out], rfl⟩
  case round =>
    obtain ⟨kk, f, m, hnf, hjk, hkn, rfl, HZ, rfl⟩ := hrel
    have hcj := HC0.out
    by_cases hlt : kk < n
    · obtain ⟨ad3, e3, hcell4⟩ := HS.out.byte (k := kk) (by rw [HN.out]; exact hlt)
      injection e3 with e3
      subst e3
      obtain ⟨d, hd⟩ : ∃ d, byteAt l kk = d := ⟨_, rfl⟩
      have hd256 := byteAt_lt l kk
      rw [hd] at hcell4 hd256
      have HD := Lib.hid hd
      by_cases hdb : d = 39
      · have t1 : ((d : Int) == 39) = true := by rw [hdb]; rfl
        have hz := HZ.out
        rw [scan_out f kk (.inr (by rw [hd]; exact hdb))] at hz
        have HR := Lib.hid (HAT.out kk hz.symm (by rw [HN.out]; exact hlt))
        have hp : Sees w (some (ad.add (j + 1))) (vB ((l.drop (j + 1)).take (kk - (j + 1)))) := by
          have h1 := HS.out.drop (k := j + 1) (cap := c) (by rw [vB_len, HN.out]; omega)
          rw [if_neg (by omega), ← vB_drop] at h1
          rw [vB_take]
          exact h1.take _
        obtain ⟨T, hT⟩ : ∃ T, (l.drop (j + 1)).take (kk - (j + 1)) = T := ⟨_, rfl⟩
        rw [hT] at hp HR
        have hTl : T.length = kk - (j + 1) := by rw [← hT, List.length_take, List.length_drop, HN.out]; omega
        have KC := Lib.hid (fun m => add1_at ad j ▸ conv_sees (w.drewN m) (some (ad.add (j + 1))) (kk - (j + 1)) (c - (j + 1)) T hTl (hp.drewN m))
        have hcc : ¬ c = j + 1 := by omega
        clear hd hdb hz hp hT hTl
        go_wp2_with fail
        go_quiet (fail)
        have kc := KC.out
        go_wp2_with fail
        go_ret3
        exact ⟨by rw [← HR.out]; exact ret_t3 (by show (kk : Int) + 1 = ((kk + 1 : Nat) : Int); omega), below_drw (Below.refl _ _) _⟩
      · have t1 : ((d : Int) == 39) = false := by simp; omega
        obtain ⟨g, rfl⟩ : ∃ g, f = g + 1 := ⟨f - 1, by omega⟩
        have hz := HZ.out
        rw [scan_on g kk (by rw [HN.out]; exact hlt) (by rw [hd]; exact hdb)] at hz
        have Hz := Lib.hid hz
        clear hd hdb hz
        go_wp2_with fail
        go_quiet (fail)
        go_wp2_with fail
        go_roundw
        case rel => exact ⟨kk + 1, g, _, by omega, by omega, by omega, by go_num, Hz, (by first | rfl | exact World.drewN_drewN)⟩
        case measure => simp [intOf]; omega
    · obtain rfl : kk = n := by omega
      have hz := HZ.out
      rw [scan_out f kk (.inl (by rw [HN.out]; exact Nat.le_refl _))] at hz
      have HR := Lib.hid (HEND.out (by rw [← hz]; exact HN.out.symm))
      clear hz
      go_wp2_with fail
      go_ret3
      exact ⟨by rw [← HR.out]; rfl, below_drw (Below.refl _ _) _⟩

set_option maxHeartbeats 4000000 in
theorem rquoted_any (l : List UInt8) (A : Option Addr) (n c : Nat) (k : Int) (w : World)
    (hn : l.length = n) (hnc : n ≤ c) (hm : c ≤ 9223372036854775807) (hk : I64 k) (hn9 : n ≤ 1000000) (hs : Sees w A (vB l)) :
    Calls Tryd.prog 114 #[.slice A n c, .int .i64 k] w fun e w' => e = .returned (trV (quoT l k)) ∧ Below w.heap.size w w' := by
  have hkl := hk.1
  have hkh := hk.2
  by_cases hout : k < 0 ∨ (n : Int) < k
  · rw [quoT_out (by rw [hn]; exact hout), trV_no]
    rcases hout with h0 | h0
    all_goals
      go_enter Tryd.func114, Tryd.ntmps114
      go_wp2_with fail
      go_ret3
      exact ⟨rfl, Below.refl _ _⟩
  · obtain ⟨j, rfl⟩ : ∃ j : Nat, k = j := ⟨k.toNat, by omega⟩
    have hj : j ≤ n := by omega
    by_cases hjn : j = n
    · rw [quoT_not (by omega) (.inl (by omega)), trV_no]
      subst hjn
      go_enter Tryd.func114, Tryd.ntmps114
      go_wp2_with fail
      go_ret3
      exact ⟨rfl, Below.refl _ _⟩
    · have hjl : j < n := by omega
      obtain ⟨ad, rfl, hcell⟩ := hs.byte (k := j) (by omega)
      obtain ⟨b, hb⟩ : ∃ b, byteAt l j = b := ⟨_, rfl⟩
      have hb256 := byteAt_lt l j
      rw [hb] at hcell hb256
      have hjne : j ≠ n := by omega
      by_cases hq : b = 34 ∨ b = 39
      · rcases hq with rfl | rfl
        · exact rquoted_34 l ad n c j w hn hnc hm hn9 hs hjl hcell hb
        · exact rquoted_39 l ad n c j w hn hnc hm hn9 hs hjl hcell hb
      · rw [quoT_not (by omega) (.inr (by rw [hb]; omega)), trV_no]
        have t34 : ((b : Int) != 34) = true := by simp; omega
        have t39 : ((b : Int) != 39) = true := by simp; omega
        clear hs hb hq
        go_enter Tryd.func114, Tryd.ntmps114
        go_wp2_with fail
        go_ret3
        exact ⟨rfl, Below.refl _ _⟩
end Go.Proofs.YtdmfladcldkmeaaDoor
namespace Go.Proofs.YtdmfladcldkmeaaDoor
open Go.ChangeShapes Go.WideShapes Go.ChangeAt Go.RowKit
set_option linter.unusedVariables false
set_option maxRecDepth 100000

theorem ret_ii {a b c d : Int} (h1 : a = c) (h2 : b = d) : Ending.returned (.tuple #[.int .i64 a, .int .i64 b]) = .returned (.tuple #[.int .i64 c, .int .i64 d]) := by rw [h1, h2]
set_option maxHeartbeats 2000000 in
theorem behind_any (l : List UInt8) (A : Option Addr) (n c k : Nat) (w : World)
    (hn : l.length = n) (hnc : n ≤ c) (hm : c ≤ 9223372036854775807) (hk : k < n) (hn9 : n ≤ 1000000) (hs : Sees w A (vB l)) (ht : TabC w) :
    Calls Tryd.prog 139 #[.slice A n c, .int .i64 (k : Int)] w fun e w' => e = .returned (.tuple #[.int .i64 (bhN l k).1, .int .i64 (bhN l k).2]) ∧ Below w.heap.size w w' := by
  unfold bhN
  rw [hn]
  have HC := cchar_any l A n c k w hn hnc hm ⟨by omega, by omega⟩ hn9 hs ht
  have HE := entity_any l A n c k w hn hnc hm ⟨by omega, by omega⟩ hn9 hs ht.toN
  obtain ⟨x, y, z, hv⟩ := chV_tup l k
  obtain ⟨s, y2, z2, hv2⟩ := entV_tup l k 38
  rw [hv] at HC ⊢
  rw [hv2] at HE ⊢
  have KC := Lib.hid HC
  have KE := Lib.hid HE
  by_cases h1 : k + 1 < n
  · obtain ⟨ad, rfl, hcell⟩ := hs.byte (k := k + 1) (by omega)
    obtain ⟨b, hb⟩ : ∃ b, byteAt l (k + 1) = b := ⟨_, rfl⟩
    have hb9 := byteAt_lt l (k + 1)
    rw [hb] at hcell hb9 ⊢
    rw [add1_at] at hcell
    by_cases h35 : b = 35
    · rw [if_pos ⟨h1, h35⟩]
      have t1 : ((b : Int) == 35) = true := by rw [h35]; rfl
      clear HC HE hs hv hv2 hb h35 hn
      go_enter Tryd.func139, Tryd.ntmps139
      go_wp2_with fail
      refine KC.out.mono ?_
      rintro e w1 ⟨rfl, hb1⟩
      go_wp2_with fail
      go_ret2
      exact ⟨rfl, hb1⟩
    · rw [if_neg (by rintro ⟨_, h⟩; exact h35 h)]
      have t1 : ((b : Int) == 35) = false := by simp; omega
      clear HC HE hs hv hv2 hb h35 hn
      go_enter Tryd.func139, Tryd.ntmps139
      go_wp2_with fail
      refine KE.out.mono ?_
      rintro e w1 ⟨rfl, hb1⟩
      go_wp2_with fail
      go_ret2
      exact ⟨rfl, hb1⟩
  · rw [if_neg (by rintro ⟨h, _⟩; exact h1 h)]
    clear HC HE hs hv hv2 hn
    go_enter Tryd.func139, Tryd.ntmps139
    go_wp2_with fail
    refine KE.out.mono ?_
    rintro e w1 ⟨rfl, hb1⟩
    go_wp2_with fail
    go_ret2
    exact ⟨rfl, hb1⟩

/-- At the loop's head: the place, and what is still to come. -/
def RefRel (l : List UInt8) (R : Int × Int) (W0 : World) (i : Value) (w : World) : Prop := ∃ k f : Nat, k ≤ l.length ∧ l.length ≤ k + f ∧ i = .int .i64 k ∧ refsN l f k = R ∧ Below W0.heap.size W0 w
theorem refRel_mk {l : List UInt8} {R : Int × Int} {W0 w : World} {i : Int} (k f : Nat) (h1 : k ≤ l.length) (h2 : l.length ≤ k + f) (h3 : i = k) (h4 : refsN l f k = R) (h5 : Below W0.heap.size W0 w) : RefRel l R W0 (.int .i64 i) w :=
  ⟨k, f, h1, h2, by rw [h3], h4, h5⟩

set_option maxHeartbeats 4000000 in
theorem refs_any (l : List UInt8) (w : World) (hl : l.length ≤ 1000000) (ht : TabC w) :
    Calls Tryd.prog 101 #[strV l] w fun e w' => e = .returned (refsV l) ∧ Below w.heap.size w w' := by
  obtain ⟨B, cap, W1, hrun, hc1, hc2, hb1, hBl, hBw, hs1⟩ := bytes_made l w hl
  have ht1 := ht.below hb1
  have HS := Lib.hid hs1
  have HT := Lib.hid ht1
  have hsz1 := hb1.size
  unfold refsV
  obtain ⟨R, hR⟩ : ∃ R, refsN l l.length 0 = R := ⟨_, rfl⟩
  have HR0 := Lib.hid hR
  rw [hR]
  clear hs1 ht1 ht hR
  go_enter Tryd.func101, Tryd.ntmps101
  go_wp2_with fail
  go_loopw [5] (fun i wr => RefRel l R W1 i wr) (fun i _ => l.length - (intOf i).toNat)
  case atStart => exact refRel_mk 0 l.length (by omega) (by omega) rfl HR0.out (Below.refl _ _)
  case round =>
    obtain ⟨k, f, hk, hf, rfl, hr, hB⟩ := hrel
    have HR := Lib.hid hr
    clear hr
    by_cases hlt : k < l.length
    · have hck : ¬ cap = k := by omega
      have hsd := sees_off (HS.out.below hB) k
      have hi0 := bIndex_any wr (some ⟨B, k, none⟩) (l.length - k) (cap - k) (l.drop k) 38 List.length_drop hsd
      rw [show ((38 : Int).toNat.toUInt8) = UInt8.ofNat 38 from rfl] at hi0
      rcases index_cases (l.drop k) (UInt8.ofNat 38) with ⟨h, hno⟩ | ⟨i, h, hi, hat, hno⟩
      · rw [h] at hi0
        have HI := Lib.hid hi0
        have HE := Lib.hid (refs_none (l := l) f k (fun j h1 h2 h3 => hno (j - k) (by
          rw [at_iff (by rw [List.length_drop]; omega) (by omega), byte_drop, show k + (j - k) = j by omega]; exact h3)))
        clear hi0 h hno hsd
        go_wp2_with fail
        refine HI.out.mono ?_
        rintro e w2 ⟨rfl, rfl⟩
        go_wp2_with fail
        go_ret2
        exact ⟨ret_ii (by rw [← HR.out, HE.out]) (by rw [← HR.out, HE.out]), hb1.trans (hB.mono hsz1)⟩
      · rw [h] at hi0
        have HI := Lib.hid hi0
        rw [List.length_drop] at hi
        have h38 : byteAt l (k + i) = 38 := by
          have := (at_iff (by rw [List.length_drop]; exact hi) (by omega)).1 hat
          rwa [byte_drop] at this
        have hsk := refs_skip (l := l) i f k (by omega) (by omega) (fun j hj h3 => hno j hj ((at_iff (by rw [List.length_drop]; omega) (by omega)).2 (by rw [byte_drop]; exact h3)))
        have hbh := behind_any l (some ⟨B, 0, none⟩) l.length cap (k + i) wr rfl hc1 hc2 (by omega) hl (HS.out.below hB) (HT.out.below hB)
        obtain ⟨g, hg⟩ : ∃ g, f - i = g + 1 := ⟨f - i - 1, by omega⟩
        rw [hg] at hsk
        have hgf : f ≤ i + g + 1 := by omega
        rw [show ((k + i : Nat) : Int) = (k : Int) + (i : Int) by omega] at hbh
        by_cases he : (bhN l (k + i)).2 = 0
        · obtain ⟨m, hm1, hm2, hm3⟩ := bh_go (l := l) (k := k + i) (by omega) he
          have hon := refs_on (l := l) g (k + i) m (by omega) h38 he hm1
          rw [he, hm1] at hbh
          have HBH := Lib.hid hbh
          have HN := Lib.hid (hon.symm.trans (hsk.symm.trans HR.out))
          clear hi0 h hno hsd hat hbh h38 hsk hon hm1 he hg
          go_wp2_with fail
          refine HI.out.mono ?_
          rintro e w2 ⟨rfl, rfl⟩
          go_wp2_with fail
          refine HBH.out.mono ?_
          rintro e w2 ⟨rfl, hb2⟩
          have hB2 := hB.trans (hb2.mono hB.size)
          clear hb2
          go_wp2_with fail
          go_roundw
          case rel => exact refRel_mk m g hm3 (by omega) rfl HN.out hB2
          case measure => simp [intOf]; omega
        · have her := refs_err (l := l) g (k + i) (by omega) h38 he
          obtain ⟨e', hee⟩ : ∃ e', (bhN l (k + i)).2 = e' := ⟨_, rfl⟩
          obtain ⟨y', hyy⟩ : ∃ e', (bhN l (k + i)).1 = e' := ⟨_, rfl⟩
          rw [hee] at hbh her he
          rw [hyy] at hbh
          have t1 : (e' != 0) = true := by simpa using he
          have HBH := Lib.hid hbh
          have HN := Lib.hid (her.symm.trans (hsk.symm.trans HR.out))
          clear hi0 h hno hsd hat hbh h38 hsk her he hg hee hyy
          go_wp2_with fail
          refine HI.out.mono ?_
          rintro e w2 ⟨rfl, rfl⟩
          go_wp2_with fail
          refine HBH.out.mono ?_
          rintro e w2 ⟨rfl, hb2⟩
          have hB2 := hB.trans (hb2.mono hB.size)
          clear hb2
          go_wp2_with fail
          go_ret2
          exact ⟨ret_ii (by rw [← HN.out]; show (k : Int) + i = ((k + i : Nat) : Int); omega) (by rw [← HN.out]), hb1.trans (hB2.mono hsz1)⟩
    · obtain rfl : k = l.length := by omega
      have HI := Lib.hid (fun (A' : Option Addr) (c' : Nat) => bIndex_any wr A' 0 c' [] 38 rfl (sees_nil _ _))
      have HE := Lib.hid (refs_end (l := l) f l.length (Nat.le_refl _))
      by_cases hck : cap = l.length
      all_goals
        go_wp2_with fail
        refine (HI.out _ _).mono ?_
        rintro e w2 ⟨rfl, rfl⟩
        go_wp2_with fail
        go_ret2
        exact ⟨ret_ii (by rw [← HR.out, HE.out]) (by rw [← HR.out, HE.out]), hb1.trans (hB.mono hsz1)⟩
end Go.Proofs.YtdmfladcldkmeaaDoor
