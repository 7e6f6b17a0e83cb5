/- Escaped texts, taken apart: what a reference to a character or to an entity is in the middle of a text. -/
import Derived.Test.YtdmfladcldkmeaaDoorEsc
import Derived.Test.YtdmfladcldkmeaaDoorCrf
import Derived.Test.YtdmfladcldkmeaaDoorNamh
namespace Go.Proofs.YtdmfladcldkmeaaDoor
open Go.ChangeShapes Go.WideShapes Go.ChangeAt Go.RowKit
set_option linter.unusedVariables false
set_option maxRecDepth 100000

theorem chr_ascii {l : List UInt8} {k b : Nat} (h : byteAt l k = b) (hb : b < 128) : chrAt l k = ((b : Int), 1) := by
  unfold chrAt
  simp only []
  rw [rawS_1 (by omega), h, if_neg]
  rintro (h1 | h1 | h1)
  · cases h1
  · unfold isR at h1
    simp at h1
    omega
  · simp only [Int.toNat_natCast] at h1
    unfold encLen at h1
    rw [if_pos hb] at h1
    exact h1 rfl
/-- A byte in the middle. -/
theorem byte_mid (pre X post : List UInt8) (j : Nat) (hj : j < X.length) : byteAt (pre ++ X ++ post) (pre.length + j) = byteAt X j := by
  unfold byteAt
  rw [List.append_assoc, List.getElem?_append_right (by omega), Nat.add_sub_cancel_left, List.getElem?_append_left hj]
theorem byte_head (X post : List UInt8) (j : Nat) (hj : j < X.length) : byteAt (X ++ post) j = byteAt X j := by
  unfold byteAt
  rw [List.getElem?_append_left hj]
theorem mid_len (pre X post : List UInt8) : (pre ++ X ++ post).length = pre.length + X.length + post.length := by simp [Nat.add_assoc]
theorem mid_piece (pre X post : List UInt8) (a m : Nat) (h : a + m ≤ X.length) : ((pre ++ X ++ post).drop (pre.length + a)).take m = (X.drop a).take m := by
  rw [List.append_assoc, ← List.drop_drop, List.drop_left, List.drop_append_of_le_length (by omega), List.take_append_of_le_length (by rw [List.length_drop]; omega)]

theorem low_start {b : Nat} (h1 : 97 ≤ b) (h2 : b ≤ 122) : plainP startN (b : Int) = true := by
  refine plain_yes ?_ (by omega)
  unfold startN
  rw [startT_iff]
  omega
theorem low_char {b : Nat} (h1 : 97 ≤ b) (h2 : b ≤ 122) : plainP charN (b : Int) = true := by
  refine plain_yes ?_ (by omega)
  unfold charN
  rw [Bool.or_eq_true]
  right
  rw [startT_iff]
  omega
theorem start_59 : plainP startN 59 = false := by kernel_rfl
theorem char_59 : plainP charN 59 = false := by kernel_rfl
theorem start_35 : plainP startN 35 = false := by kernel_rfl
/-- A row of small letters up to a ";". -/
theorem end_low {l : List UInt8} (m : Nat) : ∀ (f k : Nat) (p : Int → Bool) (hp : p = plainP startN ∨ p = plainP charN) (hl : ∀ j, j < m → 97 ≤ byteAt l (k + j) ∧ byteAt l (k + j) ≤ 122) (h59 : byteAt l (k + m) = 59) (hlen : k + m < l.length) (hf : m ≤ f),
    endN l (plainP charN) f p k = k + m := by
  induction m with
  | zero =>
    intro f k p hp _ h59 hlen _
    rw [Nat.add_zero] at h59 ⊢
    refine endN_out f k (.inr (.inr ?_))
    rw [chr_ascii (b := 59) h59 (by omega)]
    rcases hp with rfl | rfl
    · exact start_59
    · exact char_59
  | succ m ih =>
    intro f k p hp hl h59 hlen hf
    obtain ⟨g, rfl⟩ : ∃ g, f = g + 1 := ⟨f - 1, by omega⟩
    have h0 := hl 0 (by omega)
    rw [Nat.add_zero] at h0
    rw [endN_on g k (by omega) (chr_ascii rfl (by omega)) (by omega) (by rcases hp with rfl | rfl <;> first | exact low_start h0.1 h0.2 | exact low_char h0.1 h0.2)]
    rw [ih g (k + 1) _ (.inr rfl) (fun j hj => by have := hl (j + 1) (by omega); rwa [show k + 1 + j = k + (j + 1) by omega]) (by rw [← h59]; congr 1; omega) (by omega) (by omega)]
    omega

/-- A reference to an entity whose name is of small letters, in the middle of a text. -/
theorem ent_mid (pre post nm : List UInt8) (h0 : nm ≠ []) (h1 : nm.length ≤ 1024) (hl : ∀ j, j < nm.length → 97 ≤ byteAt nm j ∧ byteAt nm j ≤ 122) :
    entV (pre ++ (38 :: nm ++ [59]) ++ post) (pre.length : Int) 38 = .tuple #[strV nm, .int .i64 ((pre.length + nm.length + 2 : Nat) : Int), .int .i64 0] := by
  obtain ⟨o, ho⟩ : ∃ o, pre ++ (38 :: nm ++ [59]) ++ post = o := ⟨_, rfl⟩
  have hX : (38 :: nm ++ [59] : List UInt8).length = nm.length + 2 := by simp
  have hlen : o.length = pre.length + (nm.length + 2) + post.length := by rw [← ho, mid_len, hX]
  have hb : ∀ j, j < nm.length + 2 → byteAt o (pre.length + j) = byteAt (38 :: nm ++ [59]) j := fun j hj => by rw [← ho]; exact byte_mid pre _ post j (by rw [hX]; exact hj)
  have hb0 : byteAt o pre.length = 38 := by have := hb 0 (by omega); rw [Nat.add_zero] at this; rw [this]; rfl
  have hbn : ∀ j, j < nm.length → byteAt o (pre.length + 1 + j) = byteAt nm j := fun j hj => by
    have := hb (1 + j) (by omega)
    rw [← Nat.add_assoc] at this
    rw [this, byte_head _ _ _ (by simp; omega)]
    unfold byteAt
    rw [Nat.add_comm 1 j, List.getElem?_cons_succ]
  have hb59 : byteAt o (pre.length + 1 + nm.length) = 59 := by
    have := hb (1 + nm.length) (by omega)
    rw [← Nat.add_assoc] at this
    rw [this]
    unfold byteAt
    rw [List.getElem?_append_right (by simp; omega)]
    simp only [List.length_cons]
    rw [show 1 + nm.length - (nm.length + 1) = 0 by omega]
    rfl
  have hn0 : 0 < nm.length := List.length_pos_iff.2 h0
  have hz : entZ o pre.length = pre.length + 1 + nm.length := by
    unfold entZ
    exact end_low nm.length o.length (pre.length + 1) _ (.inl rfl) (fun j hj => by rw [hbn j hj]; exact hl j hj) hb59 (by omega) (by omega)
  rw [ho, entV, if_neg (by omega), Int.toNat_natCast, if_neg (by rw [hb0]; omega), hz, if_neg (by omega), if_neg (by omega), if_neg (by rw [hb59]; omega)]
  have hp : (o.drop (pre.length + 1)).take (pre.length + 1 + nm.length - (pre.length + 1)) = nm := by
    rw [← ho, mid_piece pre _ post 1 _ (by rw [hX]; omega)]
    rw [show pre.length + 1 + nm.length - (pre.length + 1) = nm.length by omega]
    simp
  have e : ((pre.length + 1 + nm.length : Nat) : Int) + 1 = ((pre.length + nm.length + 2 : Nat) : Int) := by omega
  rw [hp, e]
/-- No reference to a character where no "#" stands behind the mark. -/
theorem ch_none {o : List UInt8} {k : Nat} (hk : k ≤ o.length) (h : byteAt o k ≠ 38 ∨ byteAt o (k + 1) ≠ 35) : chV o (k : Int) = noC 7 := by
  rw [chV, if_neg (by omega), Int.toNat_natCast, if_pos (.inr h)]
theorem ent_none {o : List UInt8} {k : Nat} (hk : k ≤ o.length) (h : byteAt o k ≠ 38) : entV o (k : Int) 38 = noV 7 := by
  rw [entV, if_neg (by omega), Int.toNat_natCast, if_pos (.inr h)]
/-- No reference to an entity where a "#" stands behind the mark. -/
theorem ent_num {o : List UInt8} {k : Nat} (hk : k + 1 < o.length) (h1 : byteAt o k = 38) (h2 : byteAt o (k + 1) = 35) : entV o (k : Int) 38 = noV 7 := by
  have hz : entZ o k = k + 1 := by
    unfold entZ
    refine endN_out _ _ (.inr (.inr ?_))
    rw [chr_ascii (b := 35) h2 (by omega)]
    exact start_35
  rw [entV, if_neg (by omega), Int.toNat_natCast, if_neg (by rw [h1]; omega), hz, if_pos rfl]

/-- The number that decimal digits say. -/
def dec10 (ds : List UInt8) (T : Nat) : Nat := ds.foldl (fun T d => T * 10 + (d.toNat - 48)) T
theorem dig_dec {b : Nat} (h1 : 48 ≤ b) (h2 : b ≤ 57) : digN (b : Int) 10 = ((b - 48 : Nat) : Int) := by
  have e : digV (b : Int) = (b : Int) - 48 := by unfold digV; rw [if_pos (by omega)]
  unfold digN
  rw [if_pos (.inl rfl), e, if_neg (by omega)]
  omega
theorem dig_59 : digN 59 10 = -1 := by kernel_rfl
/-- A row of decimal digits up to a ";". -/
theorem dig_row {l : List UInt8} (ds : List UInt8) : ∀ (f k T : Nat) (hl : ∀ j, j < ds.length → byteAt l (k + j) = byteAt ds j ∧ 48 ≤ byteAt ds j ∧ byteAt ds j ≤ 57) (h59 : byteAt l (k + ds.length) = 59) (hlen : k + ds.length < l.length) (hf : ds.length ≤ f),
    digZ l 10 f k = k + ds.length ∧ digT l 10 f k T = dec10 ds T := by
  induction ds with
  | nil =>
    intro f k T _ h59 _ _
    have hd : digN (byteAt l k : Int) 10 < 0 := by
      rw [List.length_nil, Nat.add_zero] at h59
      rw [h59]
      exact (show digN 59 10 < 0 by rw [dig_59]; omega)
    exact ⟨digZ_out f k (.inr hd), digT_out f k T (.inr hd)⟩
  | cons d ds ih =>
    intro f k T hl h59 hlen hf
    rw [List.length_cons] at h59 hlen hf
    obtain ⟨g, rfl⟩ : ∃ g, f = g + 1 := ⟨f - 1, by omega⟩
    obtain ⟨e0, e1, e2⟩ := hl 0 (by simp)
    rw [Nat.add_zero] at e0
    have eb : byteAt (d :: ds) 0 = d.toNat := rfl
    rw [eb] at e0 e1 e2
    have hd := dig_dec e1 e2
    have hk : k < l.length := by omega
    obtain ⟨i1, i2⟩ := ih g (k + 1) (T * 10 + (d.toNat - 48)) (fun j hj => by
      have := hl (j + 1) (by simp; omega)
      rw [show k + 1 + j = k + (j + 1) by omega]
      exact this) (by rw [← h59]; congr 1; omega) (by omega) (by omega)
    constructor
    · rw [digZ_on g k hk (by rw [e0, hd]; omega), i1, List.length_cons]
      omega
    · rw [digT_on g k T hk (by rw [e0, hd]; omega), e0, hd, show ((10 : Int)).toNat = 10 from rfl, Int.toNat_natCast, i2]
      rfl
/-- A reference to a character in decimal digits, in the middle of a text. -/
theorem ch_mid (pre post ds : List UInt8) (h0 : ds ≠ []) (hl : ∀ j, j < ds.length → 48 ≤ byteAt ds j ∧ byteAt ds j ≤ 57) (hc : hasT charT ((dec10 ds 0 : Nat) : Int) = true) :
    chV (pre ++ (38 :: 35 :: ds ++ [59]) ++ post) (pre.length : Int) = .tuple #[.int .i64 ((dec10 ds 0 : Nat) : Int), .int .i64 ((pre.length + ds.length + 3 : Nat) : Int), .int .i64 0] := by
  obtain ⟨o, ho⟩ : ∃ o, pre ++ (38 :: 35 :: ds ++ [59]) ++ post = o := ⟨_, rfl⟩
  have hX : (38 :: 35 :: ds ++ [59] : List UInt8).length = ds.length + 3 := by simp
  have hlen : o.length = pre.length + (ds.length + 3) + post.length := by rw [← ho, mid_len, hX]
  have hb : ∀ j, j < ds.length + 3 → byteAt o (pre.length + j) = byteAt (38 :: 35 :: ds ++ [59]) j := fun j hj => by rw [← ho]; exact byte_mid pre _ post j (by rw [hX]; exact hj)
  have hb0 : byteAt o pre.length = 38 := by have := hb 0 (by omega); rw [Nat.add_zero] at this; rw [this]; rfl
  have hb1 : byteAt o (pre.length + 1) = 35 := by rw [hb 1 (by omega)]; rfl
  have hbn : ∀ j, j < ds.length → byteAt o (pre.length + 2 + j) = byteAt ds j := fun j hj => by
    have := hb (2 + j) (by omega)
    rw [← Nat.add_assoc] at this
    rw [this, byte_head _ _ _ (by simp; omega)]
    unfold byteAt
    rw [show 2 + j = (j + 1) + 1 by omega, List.getElem?_cons_succ, List.getElem?_cons_succ]
  have hb59 : byteAt o (pre.length + 2 + ds.length) = 59 := by
    have := hb (2 + ds.length) (by omega)
    rw [← Nat.add_assoc] at this
    rw [this]
    unfold byteAt
    rw [List.getElem?_append_right (by simp; omega)]
    simp only [List.length_cons]
    rw [show 2 + ds.length - (ds.length + 1 + 1) = 0 by omega]
    rfl
  have hn0 : 0 < ds.length := List.length_pos_iff.2 h0
  have hx : byteAt o (pre.length + 2) ≠ 120 := by
    have h1 := hbn 0 hn0
    have h2 := hl 0 hn0
    rw [Nat.add_zero] at h1
    omega
  obtain ⟨hz, hT⟩ := dig_row (l := o) ds o.length (pre.length + 2) 0 (fun j hj => ⟨hbn j hj, hl j hj⟩) hb59 (by omega) (by omega)
  rw [ho, chV, if_neg (by omega), Int.toNat_natCast, if_neg (by rw [hb0, hb1]; omega), if_neg hx]
  have e : ((pre.length + 2 + ds.length : Nat) : Int) + 1 = ((pre.length + ds.length + 3 : Nat) : Int) := by omega
  rw [← crefD_ok hz.symm hT.symm (by rw [hb59]; omega) hc, e]
end Go.Proofs.YtdmfladcldkmeaaDoor
