/- The names that are always known: their table, as a datum gives it. -/
import Derived.Test.YtncoldgkljnbeaaDoorCrc
namespace Go.Proofs.YtncoldgkljnbeaaDoor
open Go.ChangeShapes Go.WideShapes Go.ChangeAt Go.RowKit
set_option linter.unusedVariables false

def flatK (T : List (List UInt8 × Int)) : List Value := T.flatMap fun p => [strV p.1, .int .i64 p.2]
def dataK (T : List (List UInt8 × Int)) : DataW Unit := .agg (T.map fun p => .agg [.lit (.string p.1), .lit (.int .i64 p.2)])
theorem flatK_of (T : List (List UInt8 × Int)) (L : List Value) (hl : L.length = 2 * T.length) (h : ∀ i (hi : i < T.length), (L.drop (i * 2)).take 2 = [strV T[i].1, .int .i64 T[i].2]) : L = flatK T := by
  induction T generalizing L with
  | nil => exact List.eq_nil_of_length_eq_zero (by simpa using hl)
  | cons p T ih =>
    have h0 := h 0 (by simp)
    simp only [Nat.zero_mul, List.drop_zero, List.getElem_cons_zero] at h0
    have ih' := ih (L.drop 2) (by rw [List.length_drop, hl, List.length_cons]; omega) (fun i hi => by
      have := h (i + 1) (by simp; omega)
      rw [List.drop_drop]
      rw [show 2 + i * 2 = (i + 1) * 2 by omega, this]
      simp)
    have := List.take_append_drop 2 L
    rw [h0, ih'] at this
    rw [← this]
    simp [flatK]
theorem cells_known {P : Program} {W : World} {base : Nat} {sp : Nat → Bool} {hd : Bool} {fuel : Nat} {t e : TypeId} {n : Nat} {f0 f1 : Field} {enc : TypeId × Value → Unit} {L : List Value} {T : List (List UInt8 × Int)} {q : List MemPlace} {ts ti : TypeId}
    (ht : P.underlying t = some (.array n e)) (he : P.underlying e = some (.struct #[f0, f1])) (h0 : f0.offset = 0) (h1 : f1.offset = 1) (t0 : f0.type = ts) (t1 : f1.type = ti) (hs : P.underlying ts = some .string) (hi : P.underlying ti = some (.int .i64))
    (cs : P.cellsOf ts = 1) (ci : P.cellsOf ti = 1) (ce : P.cellsOf e = 2) (ct : P.cellsOf t = 2 * n) (hn : T.length = n)
    (h : DataW.trod enc P W base sp hd fuel t L = some (dataK T, q)) : L = flatK T := by
  obtain ⟨xs, m, rfl, hx, hl, hxn, hel⟩ := DataW.trod_array ht h
  rw [ct] at hl
  refine flatK_of T L (by rw [hl, hn]) (fun i hi' => ?_)
  have hin : i < n := by omega
  have hxi := hel i hin
  rw [List.getElem?_eq_getElem (by omega), ce] at hxi
  obtain ⟨y0, y1, k, hy, hlen, hy0, hy1⟩ := trod_struct2 he hxi
  rw [h0, t0, cs, List.drop_zero] at hy0
  rw [h1, t1, ci] at hy1
  obtain ⟨s, ea, rfl, _⟩ := DataW.trod_string hs hy0
  obtain ⟨b, eb, rfl, _⟩ := DataW.trod_int hi hy1
  rw [ce] at hlen
  unfold dataK at hx
  simp only [Prod.mk.injEq, DataW.agg.injEq] at hx
  have hm := hx.1
  have hmi : (T.map fun p => (DataW.agg [.lit (.string p.1), .lit (.int .i64 p.2)] : DataW Unit))[i]? = (xs.map (·.1))[i]? := by rw [hm]
  rw [List.getElem?_map, List.getElem?_map, List.getElem?_eq_getElem hi', List.getElem?_eq_getElem (show i < xs.length by omega), hy] at hmi
  simp only [Option.map_some, Option.some.injEq, DataW.agg.injEq, List.cons.injEq, DataW.lit.injEq, Lit.string.injEq, Lit.int.injEq, true_and, and_true] at hmi
  obtain ⟨ha, hb⟩ := hmi
  have hsv : (Value.string s) = strV T[i].1 := by
    show Value.string s = .string ⟨_⟩
    congr 1
    apply ByteArray.ext
    rw [ha]
  obtain ⟨l, hl'⟩ : ∃ l, (L.drop (i * 2)).take 2 = l := ⟨_, rfl⟩
  rw [hl'] at ea eb hlen ⊢
  match l, hlen with
  | [x, y], _ =>
    simp at ea eb
    rw [ea, eb, hsv, hb]
theorem kn_of_var {P : Program} {w : World} {cs : Array Value} (hg : P.globalNamed "narthex/cref.known" = some 0) (hv : w.var? P "narthex/cref.known" = some cs) (hc : cs.toList = flatK kn) : KnAt w := by
  unfold World.var? at hv
  rw [hg] at hv
  simp only [Option.bind_some] at hv
  split at hv
  · next cs' t fr e =>
    injection hv with hv
    subst hv
    refine ⟨t, fr, ?_⟩
    rw [e, show knRow = (flatK kn).toArray from rfl, ← hc]
  · cases hv
end Go.Proofs.YtncoldgkljnbeaaDoor
