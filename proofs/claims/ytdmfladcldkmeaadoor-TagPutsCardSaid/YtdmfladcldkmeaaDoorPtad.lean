/- DERIVED: THE SHELF's CONTRACTS AT THIS DUMP, IN PLAIN WORDS (tools/lay-plain.mjs out of 'TrydShelf.lean', which tools/lay-shelf.mjs wrote): THE SAME DECLARATIONS UNDER THE SAME NAMES: 'import', 'namespace', 'open', 'def', 'theorem' AND NOTHING ELSE: no command of the shelf's: FOR A HAND-IN. Each laying: the table of numbers ('.._ren') and one theorem, a field a fact of the dump's own or the kernel's comparison; each contract: ONE APPLICATION. strings.IndexRune of a rune that is no ASCII in the text of two marks: none. strings.ContainsAny of a text of whatever bytes and of two marks. Tags written, by the program: what keeps a tag from being written. -/
import Derived.Shelf.Small.Strs
import Derived.Shelf.Small.Wraps
import Derived.Shelf.Strings.Search1
import Derived.Shelf.Strings.Search2
import Derived.Shelf.Strings.Search3
import Derived.Shelf.Strings.Cut
import Derived.Shelf.LaysM
import Derived.Shelf.Strings.Shaped
import Derived.Shelf.Strings.Prefix
import Derived.Shelf.Strings.Runes
import Derived.Shelf.Strings.IndexAny
import Derived.Shelf.Strings.AsciiSet
import Derived.Shelf.Strings.IndexAnyAll
import Derived.Test.YtdmfladcldkmeaaDoorProg
import Derived.Laws.RangeString
import Derived.Laws.Runes
import Derived.Deep.LoopGhost
import Derived.BigQuiet
import Derived.Maps.OwnSet
import Derived.Deep.RegionHeld3
import Derived.Test.YtdmfladcldkmeaaDoorPtac
namespace Go.Proofs
open Go.Shelf
def Tryd.lays137_ren : Go.Shelf.Ren := ⟨fun | 137 => 187 | 217 => 175 | 266 => 190 | n => n, fun | 9 => 9 | 5 => 5 | 3 => 3 | n => n, fun | n => n⟩
theorem Tryd.lays137 : Go.Proofs.Lays.n137 Tryd.prog Tryd.lays137_ren := {
  mixed := by kernel_rfl
  f137 := Tryd.func187.trans (congrArg some (by kernel_rfl))
  f217 := Tryd.func175.trans (congrArg some (by kernel_rfl))
  f266 := Tryd.func190.trans (congrArg some (by kernel_rfl))
  t3 := Tryd.underlying3
  a3 := Tryd.isAgg3
  z3 := Tryd.sizeOf3
  v3 := Tryd.zeroValue3
  t5 := Tryd.underlying5
  a5 := Tryd.isAgg5
  z5 := Tryd.sizeOf5
  v5 := Tryd.zeroValue5
  t9 := Tryd.underlying9
  a9 := Tryd.isAgg9
  z9 := Tryd.sizeOf9
  v9 := Tryd.zeroValue9 }
open Go.RowKit in
/-- strings.IndexByte: "IndexByte returns the index of the first instance of c in s, or -1 if c is not present in s.": IT RETURNS 'Lib.indexByte s c'; the world is as it was. (LAID: no walk: one application.) -/
theorem Tryd.strings_IndexByte (s : ByteArray) (c : Int) (w : World) :
    Calls Tryd.prog 187 #[.string s, .int .u8 c] w fun e w' => e = .returned (.int .i64 (Lib.indexByte s.data.toList c.toNat.toUInt8)) ∧ w' = w := Any.strings_IndexByte Tryd.lays137 s c w
def Tryd.lays210_ren : Go.Shelf.Ren := ⟨fun | 210 => 146 | 206 => 171 | n => n, fun | 9 => 9 | 4 => 4 | 3 => 3 | n => n, fun | n => n⟩
theorem Tryd.lays210 : Go.Proofs.Lays.n210 Tryd.prog Tryd.lays210_ren := {
  mixed := by kernel_rfl
  f206 := Tryd.func171.trans (congrArg some (by kernel_rfl))
  f210 := Tryd.func146.trans (congrArg some (by kernel_rfl))
  t3 := Tryd.underlying3
  a3 := Tryd.isAgg3
  z3 := Tryd.sizeOf3
  v3 := Tryd.zeroValue3
  t4 := Tryd.underlying4
  a4 := Tryd.isAgg4
  z4 := Tryd.sizeOf4
  v4 := Tryd.zeroValue4
  t9 := Tryd.underlying9
  a9 := Tryd.isAgg9
  z9 := Tryd.sizeOf9
  v9 := Tryd.zeroValue9 }
open Go.RowKit in
/-- internal/stringslite.CutPrefix (what strings.CutPrefix calls). (LAID: no walk: one application.) -/
theorem Tryd.stringslite_CutPrefix (s p : ByteArray) (w : World) :
    Calls Tryd.prog 146 #[.string s, .string p] w fun e w' => e = .returned (.tuple #[.string ⟨(Lib.trimPrefix s.data.toList p.data.toList).toArray⟩, .bool (Lib.hasPrefix s.data.toList p.data.toList)]) ∧ w' = w := Any.stringslite_CutPrefix Tryd.lays210 s p w
def Tryd.lays103_ren : Go.Shelf.Ren := ⟨fun | 103 => 110 | 210 => 146 | 206 => 171 | n => n, fun | 9 => 9 | 4 => 4 | 24 => 53 | 3 => 3 | n => n, fun | n => n⟩
theorem Tryd.lays103 : Go.Proofs.Lays.n103 Tryd.prog Tryd.lays103_ren := {
  mixed := by kernel_rfl
  f103 := Tryd.func110.trans (congrArg some (by kernel_rfl))
  f206 := Tryd.func171.trans (congrArg some (by kernel_rfl))
  f210 := Tryd.func146.trans (congrArg some (by kernel_rfl))
  t3 := Tryd.underlying3
  a3 := Tryd.isAgg3
  z3 := Tryd.sizeOf3
  v3 := Tryd.zeroValue3
  t4 := Tryd.underlying4
  a4 := Tryd.isAgg4
  z4 := Tryd.sizeOf4
  v4 := Tryd.zeroValue4
  t9 := Tryd.underlying9
  a9 := Tryd.isAgg9
  z9 := Tryd.sizeOf9
  v9 := Tryd.zeroValue9
  t24 := Tryd.underlying53
  a24 := Tryd.isAgg53
  z24 := Tryd.sizeOf53
  v24 := Tryd.zeroValue53 }
open Go.RowKit in
/-- strings.CutPrefix: "CutPrefix returns s without the provided leading prefix string and reports whether it found the prefix. If s doesn't start with prefix, CutPrefix returns s, false. If prefix is the empty string, CutPrefix returns s, true.": IT RETURNS '(Lib.trimPrefix s p, Lib.hasPrefix s p)'; the world is as it was. (LAID: no walk: one application.) -/
theorem Tryd.strings_CutPrefix (s p : ByteArray) (w : World) :
    Calls Tryd.prog 110 #[.string s, .string p] w fun e w' => e = .returned (.tuple #[.string ⟨(Lib.trimPrefix s.data.toList p.data.toList).toArray⟩, .bool (Lib.hasPrefix s.data.toList p.data.toList)]) ∧ w' = w := Any.strings_CutPrefix Tryd.lays103 s p w
def Tryd.lays217_ren : Go.Shelf.Ren := ⟨fun | 217 => 175 | 266 => 190 | n => n, fun | 9 => 9 | 5 => 5 | 3 => 3 | n => n, fun | n => n⟩
theorem Tryd.lays217 : Go.Proofs.Lays.n217 Tryd.prog Tryd.lays217_ren := {
  mixed := by kernel_rfl
  f217 := Tryd.func175.trans (congrArg some (by kernel_rfl))
  f266 := Tryd.func190.trans (congrArg some (by kernel_rfl))
  t3 := Tryd.underlying3
  a3 := Tryd.isAgg3
  z3 := Tryd.sizeOf3
  v3 := Tryd.zeroValue3
  t5 := Tryd.underlying5
  a5 := Tryd.isAgg5
  z5 := Tryd.sizeOf5
  v5 := Tryd.zeroValue5
  t9 := Tryd.underlying9
  a9 := Tryd.isAgg9
  z9 := Tryd.sizeOf9
  v9 := Tryd.zeroValue9 }
open Go.RowKit Go.Lib in
/-- internal/stringslite.IndexByte (what strings.IndexByte calls): IT RETURNS 'Lib.indexByte s c'; the world is as it was. (LAID: no walk: one application.) -/
theorem Tryd.stringslite_IndexByte (s : ByteArray) (c : Int) (w : World) :
    Calls Tryd.prog 175 #[.string s, .int .u8 c] w fun e w' => e = .returned (.int .i64 (Lib.indexByte s.data.toList c.toNat.toUInt8)) ∧ w' = w := Any.stringslite_IndexByte Tryd.lays217 s c w
def Tryd.lays224_ren : Go.Shelf.Ren := ⟨fun | 224 => 177 | n => n, fun | 3 => 3 | n => n, fun | n => n⟩
theorem Tryd.lays224 : Go.Proofs.Lays.n224 Tryd.prog Tryd.lays224_ren := {
  mixed := by kernel_rfl
  f224 := Tryd.func177.trans (congrArg some (by kernel_rfl))
  t3 := Tryd.underlying3
  a3 := Tryd.isAgg3
  z3 := Tryd.sizeOf3
  v3 := Tryd.zeroValue3 }
open Go.RowKit Go.Lib in
/-- internal/bytealg.Cutover: "Cutover reports the number of failures of IndexByte we should tolerate before switching over to Index. n is the number of bytes processed so far.": on amd64: (n + 16) / 8. (LAID: no walk: one application.) -/
theorem Tryd.bytealg_Cutover (n : Int) (h0 : 0 ≤ n) (h1 : n < 4611686018427387904) (w : World) :
    Calls Tryd.prog 177 #[.int .i64 n] w fun e w' => e = .returned (.int .i64 ((n + 16) / 8)) ∧ w' = w := Any.bytealg_Cutover Tryd.lays224 n h0 h1 w
def Tryd.lays314_ren : Go.Shelf.Ren := ⟨fun | 314 => 191 | n => n, fun | 9 => 9 | 51 => 192 | 3 => 3 | 4 => 4 | 5 => 5 | 46 => 204 | n => n, fun | n => n⟩
theorem Tryd.lays314 : Go.Proofs.Lays.n314 Tryd.prog Tryd.lays314_ren := {
  mixed := by kernel_rfl
  f314 := Tryd.func191.trans (congrArg some (by kernel_rfl))
  t3 := Tryd.underlying3
  a3 := Tryd.isAgg3
  z3 := Tryd.sizeOf3
  v3 := Tryd.zeroValue3
  t4 := Tryd.underlying4
  a4 := Tryd.isAgg4
  z4 := Tryd.sizeOf4
  v4 := Tryd.zeroValue4
  t5 := Tryd.underlying5
  a5 := Tryd.isAgg5
  z5 := Tryd.sizeOf5
  v5 := Tryd.zeroValue5
  t9 := Tryd.underlying9
  a9 := Tryd.isAgg9
  z9 := Tryd.sizeOf9
  v9 := Tryd.zeroValue9
  t46 := Tryd.underlying204
  a46 := Tryd.isAgg204
  z46 := Tryd.sizeOf204
  v46 := Tryd.zeroValue204
  t51 := Tryd.underlying192
  a51 := Tryd.isAgg192
  z51 := Tryd.sizeOf192
  v51 := Tryd.zeroValue192 }
open Go.RowKit Go.Lib in
/-- hashStr: "returns the hash and the appropriate multiplicative factor for use in Rabin-Karp algorithm": THE HASH OF ALL OF sep, AND 16777619 ^ len(sep), both in uint32. (LAID: no walk: one application.) -/
theorem Tryd.bytealg_hashStr (sep : ByteArray) (hs : sep.size < 4294967281) (w : World) :
    Calls Tryd.prog 191 #[.string sep] w fun e w' => e = .returned (.tuple #[.int .u32 (RK.H sep.data.toList % 4294967296), .int .u32 (16777619 ^ sep.size % 4294967296)]) ∧ w' = w := Any.bytealg_hashStr Tryd.lays314 sep hs w
def Tryd.lays267_ren : Go.Shelf.Ren := ⟨fun | 267 => 178 | 314 => 191 | n => n, fun | 9 => 9 | 3 => 3 | 146 => 229 | 51 => 192 | 4 => 4 | 5 => 5 | 46 => 204 | n => n, fun | n => n⟩
theorem Tryd.lays267 : Go.Proofs.Lays.n267 Tryd.prog Tryd.lays267_ren := {
  mixed := by kernel_rfl
  f267 := Tryd.func178.trans (congrArg some (by kernel_rfl))
  f314 := Tryd.func191.trans (congrArg some (by kernel_rfl))
  t3 := Tryd.underlying3
  a3 := Tryd.isAgg3
  z3 := Tryd.sizeOf3
  v3 := Tryd.zeroValue3
  t4 := Tryd.underlying4
  a4 := Tryd.isAgg4
  z4 := Tryd.sizeOf4
  v4 := Tryd.zeroValue4
  t5 := Tryd.underlying5
  a5 := Tryd.isAgg5
  z5 := Tryd.sizeOf5
  v5 := Tryd.zeroValue5
  t9 := Tryd.underlying9
  a9 := Tryd.isAgg9
  z9 := Tryd.sizeOf9
  v9 := Tryd.zeroValue9
  t46 := Tryd.underlying204
  a46 := Tryd.isAgg204
  z46 := Tryd.sizeOf204
  v46 := Tryd.zeroValue204
  t51 := Tryd.underlying192
  a51 := Tryd.isAgg192
  z51 := Tryd.sizeOf192
  v51 := Tryd.zeroValue192
  t146 := Tryd.underlying229
  a146 := Tryd.isAgg229
  z146 := Tryd.sizeOf229
  v146 := Tryd.zeroValue229 }
open Go.RowKit Go.Lib in
theorem Tryd.bytealg_IndexRabinKarp (s sep : ByteArray) (h1 : 1 ≤ sep.size) (h2 : sep.size ≤ s.size) (hs : s.size < 4294967281) (w : World) :
    Calls Tryd.prog 178 #[.string s, .string sep] w fun e w' => e = .returned (.int .i64 (Lib.index s.data.toList sep.data.toList)) ∧ w' = w := Any.bytealg_IndexRabinKarp Tryd.lays267 s sep h1 h2 hs w
def Tryd.lays219_ren : Go.Shelf.Ren := ⟨fun | 219 => 149 | 217 => 175 | 225 => 176 | 224 => 177 | 267 => 178 | 266 => 190 | 314 => 191 | n => n, fun | 9 => 9 | 3 => 3 | 4 => 4 | 5 => 5 | 46 => 204 | 146 => 229 | 51 => 192 | n => n, fun | 1 => 7 | n => n⟩
theorem Tryd.lays219 : Go.Proofs.Lays.n219 Tryd.prog Tryd.lays219_ren := {
  mixed := by kernel_rfl
  f217 := Tryd.func175.trans (congrArg some (by kernel_rfl))
  f219 := Tryd.func149.trans (congrArg some (by kernel_rfl))
  f224 := Tryd.func177.trans (congrArg some (by kernel_rfl))
  f225 := Tryd.func176.trans (congrArg some (by kernel_rfl))
  f266 := Tryd.func190.trans (congrArg some (by kernel_rfl))
  f267 := Tryd.func178.trans (congrArg some (by kernel_rfl))
  f314 := Tryd.func191.trans (congrArg some (by kernel_rfl))
  t3 := Tryd.underlying3
  a3 := Tryd.isAgg3
  z3 := Tryd.sizeOf3
  v3 := Tryd.zeroValue3
  t4 := Tryd.underlying4
  a4 := Tryd.isAgg4
  z4 := Tryd.sizeOf4
  v4 := Tryd.zeroValue4
  t5 := Tryd.underlying5
  a5 := Tryd.isAgg5
  z5 := Tryd.sizeOf5
  v5 := Tryd.zeroValue5
  t9 := Tryd.underlying9
  a9 := Tryd.isAgg9
  z9 := Tryd.sizeOf9
  v9 := Tryd.zeroValue9
  t46 := Tryd.underlying204
  a46 := Tryd.isAgg204
  z46 := Tryd.sizeOf204
  v46 := Tryd.zeroValue204
  t51 := Tryd.underlying192
  a51 := Tryd.isAgg192
  z51 := Tryd.sizeOf192
  v51 := Tryd.zeroValue192
  t146 := Tryd.underlying229
  a146 := Tryd.isAgg229
  z146 := Tryd.sizeOf229
  v146 := Tryd.zeroValue229
  g1 := by kernel_rfl }
open Go.RowKit Go.Lib in
/-- internal/stringslite.Index (what strings.Index calls) AT A substr OF ONE BYTE c: IT RETURNS 'Lib.indexByte s c'; the world is as it was. (LAID: no walk: one application.) -/
theorem Tryd.stringslite_Index_one (s : ByteArray) (c : UInt8) (w : World) :
    Calls Tryd.prog 149 #[.string s, .string ⟨#[c]⟩] w fun e w' => e = .returned (.int .i64 (Lib.indexByte s.data.toList c)) ∧ w' = w := Any.stringslite_Index_one Tryd.lays219 s c w
open Go.RowKit Go.Lib in
/-- internal/stringslite.Index (what strings.Index calls) AT A substr OF WHATEVER LENGTH: IT RETURNS 'Lib.index s substr'; the world is as it was. 'm': what internal/bytealg.MaxLen holds: whatever. (LAID: no walk: one application.) -/
theorem Tryd.stringslite_Index (s sub : ByteArray) (m : Int) (w : World) (hs : s.size < 4294967281) (hm : w.cell? ⟨7, 0, none⟩ = some (.int .i64 m)) :
    Calls Tryd.prog 149 #[.string s, .string sub] w fun e w' => e = .returned (.int .i64 (Lib.index s.data.toList sub.data.toList)) ∧ w' = w := Any.stringslite_Index Tryd.lays219 s sub m w hs hm
def Tryd.lays143_ren : Go.Shelf.Ren := ⟨fun | 143 => 117 | 219 => 149 | 217 => 175 | 225 => 176 | 224 => 177 | 267 => 178 | 266 => 190 | 314 => 191 | n => n, fun | 9 => 9 | 3 => 3 | 4 => 4 | 5 => 5 | 46 => 204 | 146 => 229 | 51 => 192 | n => n, fun | 1 => 7 | n => n⟩
theorem Tryd.lays143 : Go.Proofs.Lays.n143 Tryd.prog Tryd.lays143_ren := {
  mixed := by kernel_rfl
  f143 := Tryd.func117.trans (congrArg some (by kernel_rfl))
  f217 := Tryd.func175.trans (congrArg some (by kernel_rfl))
  f219 := Tryd.func149.trans (congrArg some (by kernel_rfl))
  f224 := Tryd.func177.trans (congrArg some (by kernel_rfl))
  f225 := Tryd.func176.trans (congrArg some (by kernel_rfl))
  f266 := Tryd.func190.trans (congrArg some (by kernel_rfl))
  f267 := Tryd.func178.trans (congrArg some (by kernel_rfl))
  f314 := Tryd.func191.trans (congrArg some (by kernel_rfl))
  t3 := Tryd.underlying3
  a3 := Tryd.isAgg3
  z3 := Tryd.sizeOf3
  v3 := Tryd.zeroValue3
  t4 := Tryd.underlying4
  a4 := Tryd.isAgg4
  z4 := Tryd.sizeOf4
  v4 := Tryd.zeroValue4
  t5 := Tryd.underlying5
  a5 := Tryd.isAgg5
  z5 := Tryd.sizeOf5
  v5 := Tryd.zeroValue5
  t9 := Tryd.underlying9
  a9 := Tryd.isAgg9
  z9 := Tryd.sizeOf9
  v9 := Tryd.zeroValue9
  t46 := Tryd.underlying204
  a46 := Tryd.isAgg204
  z46 := Tryd.sizeOf204
  v46 := Tryd.zeroValue204
  t51 := Tryd.underlying192
  a51 := Tryd.isAgg192
  z51 := Tryd.sizeOf192
  v51 := Tryd.zeroValue192
  t146 := Tryd.underlying229
  a146 := Tryd.isAgg229
  z146 := Tryd.sizeOf229
  v146 := Tryd.zeroValue229
  g1 := by kernel_rfl }
open Go.RowKit Go.Lib in
/-- strings.Index: "Index returns the index of the first instance of substr in s, or -1 if substr is not present in s.": AT A substr OF ONE BYTE c: IT RETURNS 'Lib.indexByte s c'; the world is as it was. (LAID: no walk: one application.) -/
theorem Tryd.strings_Index_one (s : ByteArray) (c : UInt8) (w : World) :
    Calls Tryd.prog 117 #[.string s, .string ⟨#[c]⟩] w fun e w' => e = .returned (.int .i64 (Lib.indexByte s.data.toList c)) ∧ w' = w := Any.strings_Index_one Tryd.lays143 s c w
open Go.RowKit Go.Lib in
/-- strings.Index: "Index returns the index of the first instance of substr in s, or -1 if substr is not present in s.": IT RETURNS 'Lib.index s substr'; the world is as it was. (LAID: no walk: one application.) -/
theorem Tryd.strings_Index (s sub : ByteArray) (m : Int) (w : World) (hs : s.size < 4294967281) (hm : w.cell? ⟨7, 0, none⟩ = some (.int .i64 m)) :
    Calls Tryd.prog 117 #[.string s, .string sub] w fun e w' => e = .returned (.int .i64 (Lib.index s.data.toList sub.data.toList)) ∧ w' = w := Any.strings_Index Tryd.lays143 s sub m w hs hm
def Tryd.lays144_ren : Go.Shelf.Ren := ⟨fun | 144 => 82 | 143 => 117 | 219 => 149 | 217 => 175 | 225 => 176 | 224 => 177 | 267 => 178 | 266 => 190 | 314 => 191 | n => n, fun | 9 => 9 | 4 => 4 | 3 => 3 | 5 => 5 | 46 => 204 | 146 => 229 | 51 => 192 | n => n, fun | 1 => 7 | n => n⟩
theorem Tryd.lays144 : Go.Proofs.Lays.n144 Tryd.prog Tryd.lays144_ren := {
  mixed := by kernel_rfl
  f143 := Tryd.func117.trans (congrArg some (by kernel_rfl))
  f144 := Tryd.func82.trans (congrArg some (by kernel_rfl))
  f217 := Tryd.func175.trans (congrArg some (by kernel_rfl))
  f219 := Tryd.func149.trans (congrArg some (by kernel_rfl))
  f224 := Tryd.func177.trans (congrArg some (by kernel_rfl))
  f225 := Tryd.func176.trans (congrArg some (by kernel_rfl))
  f266 := Tryd.func190.trans (congrArg some (by kernel_rfl))
  f267 := Tryd.func178.trans (congrArg some (by kernel_rfl))
  f314 := Tryd.func191.trans (congrArg some (by kernel_rfl))
  t3 := Tryd.underlying3
  a3 := Tryd.isAgg3
  z3 := Tryd.sizeOf3
  v3 := Tryd.zeroValue3
  t4 := Tryd.underlying4
  a4 := Tryd.isAgg4
  z4 := Tryd.sizeOf4
  v4 := Tryd.zeroValue4
  t5 := Tryd.underlying5
  a5 := Tryd.isAgg5
  z5 := Tryd.sizeOf5
  v5 := Tryd.zeroValue5
  t9 := Tryd.underlying9
  a9 := Tryd.isAgg9
  z9 := Tryd.sizeOf9
  v9 := Tryd.zeroValue9
  t46 := Tryd.underlying204
  a46 := Tryd.isAgg204
  z46 := Tryd.sizeOf204
  v46 := Tryd.zeroValue204
  t51 := Tryd.underlying192
  a51 := Tryd.isAgg192
  z51 := Tryd.sizeOf192
  v51 := Tryd.zeroValue192
  t146 := Tryd.underlying229
  a146 := Tryd.isAgg229
  z146 := Tryd.sizeOf229
  v146 := Tryd.zeroValue229
  g1 := by kernel_rfl }
open Go.RowKit Go.Lib in
/-- strings.Contains: "Contains reports whether substr is within s.": AT A substr OF ONE BYTE c: IT RETURNS 'decide (0 ≤ Lib.indexByte s c)'; the world is as it was. (LAID: no walk: one application.) -/
theorem Tryd.strings_Contains_one (s : ByteArray) (c : UInt8) (w : World) :
    Calls Tryd.prog 82 #[.string s, .string ⟨#[c]⟩] w fun e w' => e = .returned (.bool (decide (0 ≤ Lib.indexByte s.data.toList c))) ∧ w' = w := Any.strings_Contains_one Tryd.lays144 s c w
open Go.RowKit Go.Lib in
/-- strings.Contains: "Contains reports whether substr is within s.": IT RETURNS 'Lib.contains s substr'; the world is as it was. (LAID: no walk: one application.) -/
theorem Tryd.strings_Contains (s sub : ByteArray) (m : Int) (w : World) (hs : s.size < 4294967281) (hm : w.cell? ⟨7, 0, none⟩ = some (.int .i64 m)) :
    Calls Tryd.prog 82 #[.string s, .string sub] w fun e w' => e = .returned (.bool (Lib.contains s.data.toList sub.data.toList)) ∧ w' = w := Any.strings_Contains Tryd.lays144 s sub m w hs hm
def Tryd.lays220_ren : Go.Shelf.Ren := ⟨fun | 220 => 161 | 219 => 149 | 217 => 175 | 225 => 176 | 224 => 177 | 267 => 178 | 266 => 190 | 314 => 191 | n => n, fun | 9 => 9 | 4 => 4 | 3 => 3 | 5 => 5 | 46 => 204 | 146 => 229 | 51 => 192 | n => n, fun | 1 => 7 | n => n⟩
theorem Tryd.lays220 : Go.Proofs.Lays.n220 Tryd.prog Tryd.lays220_ren := {
  mixed := by kernel_rfl
  f217 := Tryd.func175.trans (congrArg some (by kernel_rfl))
  f219 := Tryd.func149.trans (congrArg some (by kernel_rfl))
  f220 := Tryd.func161.trans (congrArg some (by kernel_rfl))
  f224 := Tryd.func177.trans (congrArg some (by kernel_rfl))
  f225 := Tryd.func176.trans (congrArg some (by kernel_rfl))
  f266 := Tryd.func190.trans (congrArg some (by kernel_rfl))
  f267 := Tryd.func178.trans (congrArg some (by kernel_rfl))
  f314 := Tryd.func191.trans (congrArg some (by kernel_rfl))
  t3 := Tryd.underlying3
  a3 := Tryd.isAgg3
  z3 := Tryd.sizeOf3
  v3 := Tryd.zeroValue3
  t4 := Tryd.underlying4
  a4 := Tryd.isAgg4
  z4 := Tryd.sizeOf4
  v4 := Tryd.zeroValue4
  t5 := Tryd.underlying5
  a5 := Tryd.isAgg5
  z5 := Tryd.sizeOf5
  v5 := Tryd.zeroValue5
  t9 := Tryd.underlying9
  a9 := Tryd.isAgg9
  z9 := Tryd.sizeOf9
  v9 := Tryd.zeroValue9
  t46 := Tryd.underlying204
  a46 := Tryd.isAgg204
  z46 := Tryd.sizeOf204
  v46 := Tryd.zeroValue204
  t51 := Tryd.underlying192
  a51 := Tryd.isAgg192
  z51 := Tryd.sizeOf192
  v51 := Tryd.zeroValue192
  t146 := Tryd.underlying229
  a146 := Tryd.isAgg229
  z146 := Tryd.sizeOf229
  v146 := Tryd.zeroValue229
  g1 := by kernel_rfl }
open Go.RowKit Go.Lib in
/-- internal/stringslite.Cut (what strings.Cut calls): IT RETURNS 'Lib.cut s sep'; the world is as it was but for the count of draws. (LAID: no walk: one application.) -/
theorem Tryd.stringslite_Cut (s sep : ByteArray) (m : Int) (w : World) (hs : s.size < 4294967281) (hm : w.cell? ⟨7, 0, none⟩ = some (.int .i64 m)) :
    Calls Tryd.prog 161 #[.string s, .string sep] w fun e w' => e = .returned (.tuple #[.string ⟨(Lib.cut s.data.toList sep.data.toList).1.toArray⟩, .string ⟨(Lib.cut s.data.toList sep.data.toList).2.1.toArray⟩, .bool (Lib.cut s.data.toList sep.data.toList).2.2]) ∧ ∃ n, w' = w.drewN n := Any.stringslite_Cut Tryd.lays220 s sep m w hs hm
def Tryd.lays145_ren : Go.Shelf.Ren := ⟨fun | 145 => 136 | 220 => 161 | 219 => 149 | 217 => 175 | 225 => 176 | 224 => 177 | 267 => 178 | 266 => 190 | 314 => 191 | n => n, fun | 9 => 9 | 4 => 4 | 59 => 179 | 3 => 3 | 5 => 5 | 46 => 204 | 146 => 229 | 51 => 192 | n => n, fun | 1 => 7 | n => n⟩
theorem Tryd.lays145 : Go.Proofs.Lays.n145 Tryd.prog Tryd.lays145_ren := {
  mixed := by kernel_rfl
  f145 := Tryd.func136.trans (congrArg some (by kernel_rfl))
  f217 := Tryd.func175.trans (congrArg some (by kernel_rfl))
  f219 := Tryd.func149.trans (congrArg some (by kernel_rfl))
  f220 := Tryd.func161.trans (congrArg some (by kernel_rfl))
  f224 := Tryd.func177.trans (congrArg some (by kernel_rfl))
  f225 := Tryd.func176.trans (congrArg some (by kernel_rfl))
  f266 := Tryd.func190.trans (congrArg some (by kernel_rfl))
  f267 := Tryd.func178.trans (congrArg some (by kernel_rfl))
  f314 := Tryd.func191.trans (congrArg some (by kernel_rfl))
  t3 := Tryd.underlying3
  a3 := Tryd.isAgg3
  z3 := Tryd.sizeOf3
  v3 := Tryd.zeroValue3
  t4 := Tryd.underlying4
  a4 := Tryd.isAgg4
  z4 := Tryd.sizeOf4
  v4 := Tryd.zeroValue4
  t5 := Tryd.underlying5
  a5 := Tryd.isAgg5
  z5 := Tryd.sizeOf5
  v5 := Tryd.zeroValue5
  t9 := Tryd.underlying9
  a9 := Tryd.isAgg9
  z9 := Tryd.sizeOf9
  v9 := Tryd.zeroValue9
  t46 := Tryd.underlying204
  a46 := Tryd.isAgg204
  z46 := Tryd.sizeOf204
  v46 := Tryd.zeroValue204
  t51 := Tryd.underlying192
  a51 := Tryd.isAgg192
  z51 := Tryd.sizeOf192
  v51 := Tryd.zeroValue192
  t59 := Tryd.underlying179
  a59 := Tryd.isAgg179
  z59 := Tryd.sizeOf179
  v59 := Tryd.zeroValue179
  t146 := Tryd.underlying229
  a146 := Tryd.isAgg229
  z146 := Tryd.sizeOf229
  v146 := Tryd.zeroValue229
  g1 := by kernel_rfl }
open Go.RowKit Go.Lib in
/-- strings.Cut: "Cut slices s around the first instance of sep, returning the text before and after sep. The found result reports whether sep appears in s. If sep does not appear in s, cut returns s, "", false.": IT RETURNS 'Lib.cut s sep'; the world is as it was but for the count of draws. (LAID: no walk: one application.) -/
theorem Tryd.strings_Cut (s sep : ByteArray) (m : Int) (w : World) (hs : s.size < 4294967281) (hm : w.cell? ⟨7, 0, none⟩ = some (.int .i64 m)) :
    Calls Tryd.prog 136 #[.string s, .string sep] w fun e w' => e = .returned (.tuple #[.string ⟨(Lib.cut s.data.toList sep.data.toList).1.toArray⟩, .string ⟨(Lib.cut s.data.toList sep.data.toList).2.1.toArray⟩, .bool (Lib.cut s.data.toList sep.data.toList).2.2]) ∧ ∃ n, w' = w.drewN n := Any.strings_Cut Tryd.lays145 s sep m w hs hm
def Tryd.laysM219_ren : Go.Shelf.Ren := ⟨fun | 219 => 149 | 217 => 175 | 225 => 176 | 224 => 177 | 267 => 178 | 266 => 190 | 314 => 191 | n => n, fun | 9 => 9 | 3 => 3 | 4 => 4 | 5 => 5 | 46 => 204 | 146 => 229 | 51 => 192 | n => n, fun | 1 => 7 | n => n⟩
theorem Tryd.laysM219 : Go.Proofs.LaysM.n219 Tryd.prog Tryd.laysM219_ren := {
  mixed := by kernel_rfl
  f217 := Tryd.func175.trans (congrArg some (by kernel_rfl))
  f219 := Tryd.func149.trans (congrArg some (by kernel_rfl))
  f224 := Tryd.func177.trans (congrArg some (by kernel_rfl))
  f225 := Tryd.func176.trans (congrArg some (by kernel_rfl))
  f266 := Tryd.func190.trans (congrArg some (by kernel_rfl))
  f267 := Tryd.func178.trans (congrArg some (by kernel_rfl))
  f314 := Tryd.func191.trans (congrArg some (by kernel_rfl))
  t3 := Tryd.underlying3
  a3 := Tryd.isAgg3
  z3 := Tryd.sizeOf3
  v3 := Tryd.zeroValue3
  t4 := Tryd.underlying4
  a4 := Tryd.isAgg4
  z4 := Tryd.sizeOf4
  v4 := Tryd.zeroValue4
  t5 := Tryd.underlying5
  a5 := Tryd.isAgg5
  z5 := Tryd.sizeOf5
  v5 := Tryd.zeroValue5
  t9 := Tryd.underlying9
  a9 := Tryd.isAgg9
  z9 := Tryd.sizeOf9
  v9 := Tryd.zeroValue9
  t46 := Tryd.underlying204
  a46 := Tryd.isAgg204
  z46 := Tryd.sizeOf204
  v46 := Tryd.zeroValue204
  t51 := Tryd.underlying192
  a51 := Tryd.isAgg192
  z51 := Tryd.sizeOf192
  v51 := Tryd.zeroValue192
  t146 := Tryd.underlying229
  a146 := Tryd.isAgg229
  z146 := Tryd.sizeOf229
  v146 := Tryd.zeroValue229
  g1 := by kernel_rfl
  i3 := by kernel_rfl
  i4 := by kernel_rfl
  i5 := by kernel_rfl
  i9 := by kernel_rfl
  i46 := by kernel_rfl
  i51 := by kernel_rfl
  i146 := by kernel_rfl
  m1 := by kernel_rfl
  s1_3 := fun w h => Go.Proofs.cell_of_shapedOpen_int (zero := #[.int .i64 0]) (t := 3) h (of_decide_eq_true (by kernel_rfl)) (by kernel_rfl) rfl (by kernel_rfl) (by kernel_rfl) Tryd.underlying3 }
open Go.RowKit Go.Lib in
theorem Tryd.stringslite_Index_shaped (s sub : ByteArray) (w : World) (h : w.ShapedOpen Tryd.prog) (hs : s.size < 4294967281) :
    Calls Tryd.prog 149 #[.string s, .string sub] w fun e w' => e = .returned (.int .i64 (Lib.index s.data.toList sub.data.toList)) ∧ w' = w := Any.stringslite_Index_shaped Tryd.laysM219 s sub w h hs
def Tryd.laysM143_ren : Go.Shelf.Ren := ⟨fun | 143 => 117 | 219 => 149 | 217 => 175 | 225 => 176 | 224 => 177 | 267 => 178 | 266 => 190 | 314 => 191 | n => n, fun | 9 => 9 | 3 => 3 | 4 => 4 | 5 => 5 | 46 => 204 | 146 => 229 | 51 => 192 | n => n, fun | 1 => 7 | n => n⟩
theorem Tryd.laysM143 : Go.Proofs.LaysM.n143 Tryd.prog Tryd.laysM143_ren := {
  mixed := by kernel_rfl
  f143 := Tryd.func117.trans (congrArg some (by kernel_rfl))
  f217 := Tryd.func175.trans (congrArg some (by kernel_rfl))
  f219 := Tryd.func149.trans (congrArg some (by kernel_rfl))
  f224 := Tryd.func177.trans (congrArg some (by kernel_rfl))
  f225 := Tryd.func176.trans (congrArg some (by kernel_rfl))
  f266 := Tryd.func190.trans (congrArg some (by kernel_rfl))
  f267 := Tryd.func178.trans (congrArg some (by kernel_rfl))
  f314 := Tryd.func191.trans (congrArg some (by kernel_rfl))
  t3 := Tryd.underlying3
  a3 := Tryd.isAgg3
  z3 := Tryd.sizeOf3
  v3 := Tryd.zeroValue3
  t4 := Tryd.underlying4
  a4 := Tryd.isAgg4
  z4 := Tryd.sizeOf4
  v4 := Tryd.zeroValue4
  t5 := Tryd.underlying5
  a5 := Tryd.isAgg5
  z5 := Tryd.sizeOf5
  v5 := Tryd.zeroValue5
  t9 := Tryd.underlying9
  a9 := Tryd.isAgg9
  z9 := Tryd.sizeOf9
  v9 := Tryd.zeroValue9
  t46 := Tryd.underlying204
  a46 := Tryd.isAgg204
  z46 := Tryd.sizeOf204
  v46 := Tryd.zeroValue204
  t51 := Tryd.underlying192
  a51 := Tryd.isAgg192
  z51 := Tryd.sizeOf192
  v51 := Tryd.zeroValue192
  t146 := Tryd.underlying229
  a146 := Tryd.isAgg229
  z146 := Tryd.sizeOf229
  v146 := Tryd.zeroValue229
  g1 := by kernel_rfl
  i3 := by kernel_rfl
  i4 := by kernel_rfl
  i5 := by kernel_rfl
  i9 := by kernel_rfl
  i46 := by kernel_rfl
  i51 := by kernel_rfl
  i146 := by kernel_rfl
  m1 := by kernel_rfl
  s1_3 := fun w h => Go.Proofs.cell_of_shapedOpen_int (zero := #[.int .i64 0]) (t := 3) h (of_decide_eq_true (by kernel_rfl)) (by kernel_rfl) rfl (by kernel_rfl) (by kernel_rfl) Tryd.underlying3 }
open Go.RowKit Go.Lib in
theorem Tryd.strings_Index_shaped (s sub : ByteArray) (w : World) (h : w.ShapedOpen Tryd.prog) (hs : s.size < 4294967281) :
    Calls Tryd.prog 117 #[.string s, .string sub] w fun e w' => e = .returned (.int .i64 (Lib.index s.data.toList sub.data.toList)) ∧ w' = w := Any.strings_Index_shaped Tryd.laysM143 s sub w h hs
def Tryd.laysM144_ren : Go.Shelf.Ren := ⟨fun | 144 => 82 | 143 => 117 | 219 => 149 | 217 => 175 | 225 => 176 | 224 => 177 | 267 => 178 | 266 => 190 | 314 => 191 | n => n, fun | 9 => 9 | 4 => 4 | 3 => 3 | 5 => 5 | 46 => 204 | 146 => 229 | 51 => 192 | n => n, fun | 1 => 7 | n => n⟩
theorem Tryd.laysM144 : Go.Proofs.LaysM.n144 Tryd.prog Tryd.laysM144_ren := {
  mixed := by kernel_rfl
  f143 := Tryd.func117.trans (congrArg some (by kernel_rfl))
  f144 := Tryd.func82.trans (congrArg some (by kernel_rfl))
  f217 := Tryd.func175.trans (congrArg some (by kernel_rfl))
  f219 := Tryd.func149.trans (congrArg some (by kernel_rfl))
  f224 := Tryd.func177.trans (congrArg some (by kernel_rfl))
  f225 := Tryd.func176.trans (congrArg some (by kernel_rfl))
  f266 := Tryd.func190.trans (congrArg some (by kernel_rfl))
  f267 := Tryd.func178.trans (congrArg some (by kernel_rfl))
  f314 := Tryd.func191.trans (congrArg some (by kernel_rfl))
  t3 := Tryd.underlying3
  a3 := Tryd.isAgg3
  z3 := Tryd.sizeOf3
  v3 := Tryd.zeroValue3
  t4 := Tryd.underlying4
  a4 := Tryd.isAgg4
  z4 := Tryd.sizeOf4
  v4 := Tryd.zeroValue4
  t5 := Tryd.underlying5
  a5 := Tryd.isAgg5
  z5 := Tryd.sizeOf5
  v5 := Tryd.zeroValue5
  t9 := Tryd.underlying9
  a9 := Tryd.isAgg9
  z9 := Tryd.sizeOf9
  v9 := Tryd.zeroValue9
  t46 := Tryd.underlying204
  a46 := Tryd.isAgg204
  z46 := Tryd.sizeOf204
  v46 := Tryd.zeroValue204
  t51 := Tryd.underlying192
  a51 := Tryd.isAgg192
  z51 := Tryd.sizeOf192
  v51 := Tryd.zeroValue192
  t146 := Tryd.underlying229
  a146 := Tryd.isAgg229
  z146 := Tryd.sizeOf229
  v146 := Tryd.zeroValue229
  g1 := by kernel_rfl
  i3 := by kernel_rfl
  i4 := by kernel_rfl
  i5 := by kernel_rfl
  i9 := by kernel_rfl
  i46 := by kernel_rfl
  i51 := by kernel_rfl
  i146 := by kernel_rfl
  m1 := by kernel_rfl
  s1_3 := fun w h => Go.Proofs.cell_of_shapedOpen_int (zero := #[.int .i64 0]) (t := 3) h (of_decide_eq_true (by kernel_rfl)) (by kernel_rfl) rfl (by kernel_rfl) (by kernel_rfl) Tryd.underlying3 }
open Go.RowKit Go.Lib in
theorem Tryd.strings_Contains_shaped (s sub : ByteArray) (w : World) (h : w.ShapedOpen Tryd.prog) (hs : s.size < 4294967281) :
    Calls Tryd.prog 82 #[.string s, .string sub] w fun e w' => e = .returned (.bool (Lib.contains s.data.toList sub.data.toList)) ∧ w' = w := Any.strings_Contains_shaped Tryd.laysM144 s sub w h hs
def Tryd.laysM220_ren : Go.Shelf.Ren := ⟨fun | 220 => 161 | 219 => 149 | 217 => 175 | 225 => 176 | 224 => 177 | 267 => 178 | 266 => 190 | 314 => 191 | n => n, fun | 9 => 9 | 4 => 4 | 3 => 3 | 5 => 5 | 46 => 204 | 146 => 229 | 51 => 192 | n => n, fun | 1 => 7 | n => n⟩
theorem Tryd.laysM220 : Go.Proofs.LaysM.n220 Tryd.prog Tryd.laysM220_ren := {
  mixed := by kernel_rfl
  f217 := Tryd.func175.trans (congrArg some (by kernel_rfl))
  f219 := Tryd.func149.trans (congrArg some (by kernel_rfl))
  f220 := Tryd.func161.trans (congrArg some (by kernel_rfl))
  f224 := Tryd.func177.trans (congrArg some (by kernel_rfl))
  f225 := Tryd.func176.trans (congrArg some (by kernel_rfl))
  f266 := Tryd.func190.trans (congrArg some (by kernel_rfl))
  f267 := Tryd.func178.trans (congrArg some (by kernel_rfl))
  f314 := Tryd.func191.trans (congrArg some (by kernel_rfl))
  t3 := Tryd.underlying3
  a3 := Tryd.isAgg3
  z3 := Tryd.sizeOf3
  v3 := Tryd.zeroValue3
  t4 := Tryd.underlying4
  a4 := Tryd.isAgg4
  z4 := Tryd.sizeOf4
  v4 := Tryd.zeroValue4
  t5 := Tryd.underlying5
  a5 := Tryd.isAgg5
  z5 := Tryd.sizeOf5
  v5 := Tryd.zeroValue5
  t9 := Tryd.underlying9
  a9 := Tryd.isAgg9
  z9 := Tryd.sizeOf9
  v9 := Tryd.zeroValue9
  t46 := Tryd.underlying204
  a46 := Tryd.isAgg204
  z46 := Tryd.sizeOf204
  v46 := Tryd.zeroValue204
  t51 := Tryd.underlying192
  a51 := Tryd.isAgg192
  z51 := Tryd.sizeOf192
  v51 := Tryd.zeroValue192
  t146 := Tryd.underlying229
  a146 := Tryd.isAgg229
  z146 := Tryd.sizeOf229
  v146 := Tryd.zeroValue229
  g1 := by kernel_rfl
  i3 := by kernel_rfl
  i4 := by kernel_rfl
  i5 := by kernel_rfl
  i9 := by kernel_rfl
  i46 := by kernel_rfl
  i51 := by kernel_rfl
  i146 := by kernel_rfl
  m1 := by kernel_rfl
  s1_3 := fun w h => Go.Proofs.cell_of_shapedOpen_int (zero := #[.int .i64 0]) (t := 3) h (of_decide_eq_true (by kernel_rfl)) (by kernel_rfl) rfl (by kernel_rfl) (by kernel_rfl) Tryd.underlying3 }
open Go.RowKit Go.Lib in
theorem Tryd.stringslite_Cut_shaped (s sep : ByteArray) (w : World) (h : w.ShapedOpen Tryd.prog) (hs : s.size < 4294967281) :
    Calls Tryd.prog 161 #[.string s, .string sep] w fun e w' => e = .returned (.tuple #[.string ⟨(Lib.cut s.data.toList sep.data.toList).1.toArray⟩, .string ⟨(Lib.cut s.data.toList sep.data.toList).2.1.toArray⟩, .bool (Lib.cut s.data.toList sep.data.toList).2.2]) ∧ ∃ n, w' = w.drewN n := Any.stringslite_Cut_shaped Tryd.laysM220 s sep w h hs
def Tryd.laysM145_ren : Go.Shelf.Ren := ⟨fun | 145 => 136 | 220 => 161 | 219 => 149 | 217 => 175 | 225 => 176 | 224 => 177 | 267 => 178 | 266 => 190 | 314 => 191 | n => n, fun | 9 => 9 | 4 => 4 | 59 => 179 | 3 => 3 | 5 => 5 | 46 => 204 | 146 => 229 | 51 => 192 | n => n, fun | 1 => 7 | n => n⟩
theorem Tryd.laysM145 : Go.Proofs.LaysM.n145 Tryd.prog Tryd.laysM145_ren := {
  mixed := by kernel_rfl
  f145 := Tryd.func136.trans (congrArg some (by kernel_rfl))
  f217 := Tryd.func175.trans (congrArg some (by kernel_rfl))
  f219 := Tryd.func149.trans (congrArg some (by kernel_rfl))
  f220 := Tryd.func161.trans (congrArg some (by kernel_rfl))
  f224 := Tryd.func177.trans (congrArg some (by kernel_rfl))
  f225 := Tryd.func176.trans (congrArg some (by kernel_rfl))
  f266 := Tryd.func190.trans (congrArg some (by kernel_rfl))
  f267 := Tryd.func178.trans (congrArg some (by kernel_rfl))
  f314 := Tryd.func191.trans (congrArg some (by kernel_rfl))
  t3 := Tryd.underlying3
  a3 := Tryd.isAgg3
  z3 := Tryd.sizeOf3
  v3 := Tryd.zeroValue3
  t4 := Tryd.underlying4
  a4 := Tryd.isAgg4
  z4 := Tryd.sizeOf4
  v4 := Tryd.zeroValue4
  t5 := Tryd.underlying5
  a5 := Tryd.isAgg5
  z5 := Tryd.sizeOf5
  v5 := Tryd.zeroValue5
  t9 := Tryd.underlying9
  a9 := Tryd.isAgg9
  z9 := Tryd.sizeOf9
  v9 := Tryd.zeroValue9
  t46 := Tryd.underlying204
  a46 := Tryd.isAgg204
  z46 := Tryd.sizeOf204
  v46 := Tryd.zeroValue204
  t51 := Tryd.underlying192
  a51 := Tryd.isAgg192
  z51 := Tryd.sizeOf192
  v51 := Tryd.zeroValue192
  t59 := Tryd.underlying179
  a59 := Tryd.isAgg179
  z59 := Tryd.sizeOf179
  v59 := Tryd.zeroValue179
  t146 := Tryd.underlying229
  a146 := Tryd.isAgg229
  z146 := Tryd.sizeOf229
  v146 := Tryd.zeroValue229
  g1 := by kernel_rfl
  i3 := by kernel_rfl
  i4 := by kernel_rfl
  i5 := by kernel_rfl
  i9 := by kernel_rfl
  i46 := by kernel_rfl
  i51 := by kernel_rfl
  i59 := by kernel_rfl
  i146 := by kernel_rfl
  m1 := by kernel_rfl
  s1_3 := fun w h => Go.Proofs.cell_of_shapedOpen_int (zero := #[.int .i64 0]) (t := 3) h (of_decide_eq_true (by kernel_rfl)) (by kernel_rfl) rfl (by kernel_rfl) (by kernel_rfl) Tryd.underlying3 }
open Go.RowKit Go.Lib in
theorem Tryd.strings_Cut_shaped (s sep : ByteArray) (w : World) (h : w.ShapedOpen Tryd.prog) (hs : s.size < 4294967281) :
    Calls Tryd.prog 136 #[.string s, .string sep] w fun e w' => e = .returned (.tuple #[.string ⟨(Lib.cut s.data.toList sep.data.toList).1.toArray⟩, .string ⟨(Lib.cut s.data.toList sep.data.toList).2.1.toArray⟩, .bool (Lib.cut s.data.toList sep.data.toList).2.2]) ∧ ∃ n, w' = w.drewN n := Any.strings_Cut_shaped Tryd.laysM145 s sep w h hs
def Tryd.lays206_ren : Go.Shelf.Ren := ⟨fun | 206 => 171 | n => n, fun | 9 => 9 | 4 => 4 | 3 => 3 | n => n, fun | n => n⟩
theorem Tryd.lays206 : Go.Proofs.Lays.n206 Tryd.prog Tryd.lays206_ren := {
  mixed := by kernel_rfl
  f206 := Tryd.func171.trans (congrArg some (by kernel_rfl))
  t3 := Tryd.underlying3
  a3 := Tryd.isAgg3
  z3 := Tryd.sizeOf3
  v3 := Tryd.zeroValue3
  t4 := Tryd.underlying4
  a4 := Tryd.isAgg4
  z4 := Tryd.sizeOf4
  v4 := Tryd.zeroValue4
  t9 := Tryd.underlying9
  a9 := Tryd.isAgg9
  z9 := Tryd.sizeOf9
  v9 := Tryd.zeroValue9 }
open Go.RowKit Go.Lib in
/-- internal/stringslite.HasPrefix (what strings.HasPrefix calls). (LAID: no walk: one application.) -/
theorem Tryd.stringslite_HasPrefix (s p : ByteArray) (w : World) :
    Calls Tryd.prog 171 #[.string s, .string p] w fun e w' => e = .returned (.bool (Lib.hasPrefix s.data.toList p.data.toList)) ∧ w' = w := Any.stringslite_HasPrefix Tryd.lays206 s p w
def Tryd.lays152_ren : Go.Shelf.Ren := ⟨fun | 152 => 165 | 137 => 187 | 119 => 188 | 224 => 177 | 225 => 176 | 217 => 175 | 266 => 190 | n => n, fun | 9 => 9 | 21 => 21 | 3 => 3 | 4 => 4 | 5 => 5 | 0 => 0 | 46 => 204 | n => n, fun | n => n⟩
theorem Tryd.lays152 : Go.Proofs.Lays.n152 Tryd.prog Tryd.lays152_ren := {
  mixed := by kernel_rfl
  f119 := Tryd.func188.trans (congrArg some (by kernel_rfl))
  f137 := Tryd.func187.trans (congrArg some (by kernel_rfl))
  f152 := Tryd.func165.trans (congrArg some (by kernel_rfl))
  f217 := Tryd.func175.trans (congrArg some (by kernel_rfl))
  f224 := Tryd.func177.trans (congrArg some (by kernel_rfl))
  f225 := Tryd.func176.trans (congrArg some (by kernel_rfl))
  f266 := Tryd.func190.trans (congrArg some (by kernel_rfl))
  t0 := Tryd.underlying0
  a0 := Tryd.isAgg0
  z0 := Tryd.sizeOf0
  v0 := Tryd.zeroValue0
  t3 := Tryd.underlying3
  a3 := Tryd.isAgg3
  z3 := Tryd.sizeOf3
  v3 := Tryd.zeroValue3
  t4 := Tryd.underlying4
  a4 := Tryd.isAgg4
  z4 := Tryd.sizeOf4
  v4 := Tryd.zeroValue4
  t5 := Tryd.underlying5
  a5 := Tryd.isAgg5
  z5 := Tryd.sizeOf5
  v5 := Tryd.zeroValue5
  t9 := Tryd.underlying9
  a9 := Tryd.isAgg9
  z9 := Tryd.sizeOf9
  v9 := Tryd.zeroValue9
  t21 := Tryd.underlying21
  a21 := Tryd.isAgg21
  z21 := Tryd.sizeOf21
  v21 := Tryd.zeroValue21
  t46 := Tryd.underlying204
  a46 := Tryd.isAgg204
  z46 := Tryd.sizeOf204
  v46 := Tryd.zeroValue204 }
open Go.RowKit Go.Lib in
theorem Tryd.strings_IndexRune_ascii (s : ByteArray) (r : Int) (w : World) (h0 : 0 ≤ r) (h1 : r < 128) :
    Calls Tryd.prog 165 #[.string s, .int .i32 r] w fun e w' => e = .returned (.int .i64 (Lib.indexByte s.data.toList r.toNat.toUInt8)) ∧ w' = w := Any.strings_IndexRune_ascii Tryd.lays152 s r w h0 h1
def Tryd.lays226_ren : Go.Shelf.Ren := ⟨fun | 226 => 166 | n => n, fun | 3 => 3 | 4 => 4 | n => n, fun | n => n⟩
theorem Tryd.lays226 : Go.Proofs.Lays.n226 Tryd.prog Tryd.lays226_ren := {
  mixed := by kernel_rfl
  f226 := Tryd.func166.trans (congrArg some (by kernel_rfl))
  t3 := Tryd.underlying3
  a3 := Tryd.isAgg3
  z3 := Tryd.sizeOf3
  v3 := Tryd.zeroValue3
  t4 := Tryd.underlying4
  a4 := Tryd.isAgg4
  z4 := Tryd.sizeOf4
  v4 := Tryd.zeroValue4 }
open Go.RowKit Go.Lib in
theorem Tryd.strings_shouldUseASCIISet (n : Int) (w : World) :
    Calls Tryd.prog 166 #[.int .i64 n] w fun e w' => e = .returned (.bool (decide (8 < n))) ∧ w' = w := Any.strings_shouldUseASCIISet Tryd.lays226 n w
def Tryd.lays153_ren : Go.Shelf.Ren := ⟨fun | 153 => 140 | 152 => 165 | 226 => 166 | 227 => 167 | 228 => 168 | 137 => 187 | 119 => 188 | 224 => 177 | 225 => 176 | 217 => 175 | 266 => 190 | n => n, fun | 9 => 9 | 3 => 3 | 4 => 4 | 5 => 5 | 21 => 21 | 117 => 196 | 116 => 195 | 0 => 0 | 46 => 204 | 124 => 220 | n => n, fun | n => n⟩
theorem Tryd.lays153 : Go.Proofs.Lays.n153 Tryd.prog Tryd.lays153_ren := {
  mixed := by kernel_rfl
  f119 := Tryd.func188.trans (congrArg some (by kernel_rfl))
  f137 := Tryd.func187.trans (congrArg some (by kernel_rfl))
  f152 := Tryd.func165.trans (congrArg some (by kernel_rfl))
  f153 := Tryd.func140.trans (congrArg some (by kernel_rfl))
  f217 := Tryd.func175.trans (congrArg some (by kernel_rfl))
  f224 := Tryd.func177.trans (congrArg some (by kernel_rfl))
  f225 := Tryd.func176.trans (congrArg some (by kernel_rfl))
  f226 := Tryd.func166.trans (congrArg some (by kernel_rfl))
  f227 := Tryd.func167.trans (congrArg some (by kernel_rfl))
  f228 := Tryd.func168.trans (congrArg some (by kernel_rfl))
  f266 := Tryd.func190.trans (congrArg some (by kernel_rfl))
  t0 := Tryd.underlying0
  a0 := Tryd.isAgg0
  z0 := Tryd.sizeOf0
  v0 := Tryd.zeroValue0
  t3 := Tryd.underlying3
  a3 := Tryd.isAgg3
  z3 := Tryd.sizeOf3
  v3 := Tryd.zeroValue3
  t4 := Tryd.underlying4
  a4 := Tryd.isAgg4
  z4 := Tryd.sizeOf4
  v4 := Tryd.zeroValue4
  t5 := Tryd.underlying5
  a5 := Tryd.isAgg5
  z5 := Tryd.sizeOf5
  v5 := Tryd.zeroValue5
  t9 := Tryd.underlying9
  a9 := Tryd.isAgg9
  z9 := Tryd.sizeOf9
  v9 := Tryd.zeroValue9
  t21 := Tryd.underlying21
  a21 := Tryd.isAgg21
  z21 := Tryd.sizeOf21
  v21 := Tryd.zeroValue21
  t46 := Tryd.underlying204
  a46 := Tryd.isAgg204
  z46 := Tryd.sizeOf204
  v46 := Tryd.zeroValue204
  t116 := Tryd.underlying195
  a116 := Tryd.isAgg195
  z116 := Tryd.sizeOf195
  t117 := Tryd.underlying196
  a117 := Tryd.isAgg196
  z117 := Tryd.sizeOf196
  v117 := Tryd.zeroValue196
  t124 := Tryd.underlying220
  a124 := Tryd.isAgg220
  z124 := Tryd.sizeOf220
  v124 := Tryd.zeroValue220 }
open Go.RowKit Go.Lib in
/-- chars is empty. (LAID: no walk: one application.) -/
theorem Tryd.strings_IndexAny_none (s chars : ByteArray) (w : World) (h0 : chars.size = 0) :
    Calls Tryd.prog 140 #[.string s, .string chars] w fun e w' => e = .returned (.int .i64 (Lib.indexAny s.data.toList chars.data.toList)) ∧ w' = w := Any.strings_IndexAny_none Tryd.lays153 s chars w h0
open Go.RowKit Go.Lib in
/-- chars is one ASCII byte. (LAID: no walk: one application.) -/
theorem Tryd.strings_IndexAny_one (s chars : ByteArray) (w : World) (h1 : chars.size = 1) (hascii : ∀ (j : Nat) b, chars.data.toList[j]? = some b → b.toNat < 128) :
    Calls Tryd.prog 140 #[.string s, .string chars] w fun e w' => e = .returned (.int .i64 (Lib.indexAny s.data.toList chars.data.toList)) ∧ w' = w := Any.strings_IndexAny_one Tryd.lays153 s chars w h1 hascii
open Go.RowKit Go.Lib in
/-- s of at most 8 bytes; chars of two or more: 'for i, c := range s { if IndexRune(chars, c) >= 0 { return i } }'. One block more: the model's iterator over s. (LAID: no walk: one application.) -/
theorem Tryd.strings_IndexAny_short (s chars : ByteArray) (w : World) (h2 : 2 ≤ chars.size) (h8 : s.size ≤ 8) (hascii : ∀ (j : Nat) b, s.data.toList[j]? = some b → b.toNat < 128) :
    Calls Tryd.prog 140 #[.string s, .string chars] w fun e w' => e = .returned (.int .i64 (Lib.indexAny s.data.toList chars.data.toList)) ∧ ∃ pos, w' = w.iter s pos := Any.strings_IndexAny_short Tryd.lays153 s chars w h2 h8 hascii
def Tryd.lays227_ren : Go.Shelf.Ren := ⟨fun | 227 => 167 | n => n, fun | 9 => 9 | 116 => 195 | 4 => 4 | 0 => 0 | 3 => 3 | 5 => 5 | n => n, fun | n => n⟩
theorem Tryd.lays227 : Go.Proofs.Lays.n227 Tryd.prog Tryd.lays227_ren := {
  mixed := by kernel_rfl
  f227 := Tryd.func167.trans (congrArg some (by kernel_rfl))
  t0 := Tryd.underlying0
  a0 := Tryd.isAgg0
  z0 := Tryd.sizeOf0
  v0 := Tryd.zeroValue0
  t3 := Tryd.underlying3
  a3 := Tryd.isAgg3
  z3 := Tryd.sizeOf3
  v3 := Tryd.zeroValue3
  t4 := Tryd.underlying4
  a4 := Tryd.isAgg4
  z4 := Tryd.sizeOf4
  v4 := Tryd.zeroValue4
  t5 := Tryd.underlying5
  a5 := Tryd.isAgg5
  z5 := Tryd.sizeOf5
  v5 := Tryd.zeroValue5
  t9 := Tryd.underlying9
  a9 := Tryd.isAgg9
  z9 := Tryd.sizeOf9
  v9 := Tryd.zeroValue9
  t116 := Tryd.underlying195
  a116 := Tryd.isAgg195
  z116 := Tryd.sizeOf195 }
open Go.RowKit Go.Lib in
theorem Tryd.strings_makeASCIISet (hv116 : ∀ w, (zeroValue 195).run Tryd.prog w = .ok (.agg (Array.replicate 256 (.bool false))) w) (chars : ByteArray) (w : World) (hs : chars.size < 4294967281) (hascii : ∀ (j : Nat) b, chars.data.toList[j]? = some b → b.toNat < 128) :
    Calls Tryd.prog 167 #[.string chars] w fun e w' => e = .returned (.tuple #[.agg (Lib.setCells chars.data.toList), .bool true]) ∧ w' = w.alloc (.cells (Lib.setCells chars.data.toList) 195) := Any.strings_makeASCIISet Tryd.lays227 hv116 (by kernel_rfl) chars w hs hascii
def Tryd.lays228_ren : Go.Shelf.Ren := ⟨fun | 228 => 168 | n => n, fun | 124 => 220 | 5 => 5 | 4 => 4 | 0 => 0 | 116 => 195 | n => n, fun | n => n⟩
theorem Tryd.lays228 : Go.Proofs.Lays.n228 Tryd.prog Tryd.lays228_ren := {
  mixed := by kernel_rfl
  f228 := Tryd.func168.trans (congrArg some (by kernel_rfl))
  t0 := Tryd.underlying0
  a0 := Tryd.isAgg0
  z0 := Tryd.sizeOf0
  v0 := Tryd.zeroValue0
  t4 := Tryd.underlying4
  a4 := Tryd.isAgg4
  z4 := Tryd.sizeOf4
  v4 := Tryd.zeroValue4
  t5 := Tryd.underlying5
  a5 := Tryd.isAgg5
  z5 := Tryd.sizeOf5
  v5 := Tryd.zeroValue5
  t116 := Tryd.underlying195
  a116 := Tryd.isAgg195
  z116 := Tryd.sizeOf195
  t124 := Tryd.underlying220
  a124 := Tryd.isAgg220
  z124 := Tryd.sizeOf220
  v124 := Tryd.zeroValue220 }
open Go.RowKit Go.Lib in
/-- '(as *asciiSet) contains(c)': 'as[c]': the set lies at block b, whole. (LAID: no walk: one application.) -/
theorem Tryd.asciiSet_contains (b : Nat) (x : UInt8) (v : Bool) (w : World) (hc : w.cell? ⟨b, x.toNat, none⟩ = some (.bool v)) :
    Calls Tryd.prog 168 #[.pointer (some ⟨b, 0, none⟩), .int .u8 x.toNat] w fun e w' => e = .returned (.bool v) ∧ w' = w := Any.asciiSet_contains Tryd.lays228 b x v w hc
open Go.RowKit Go.Lib in
theorem Tryd.strings_IndexAny_long (hv116 : ∀ w, (zeroValue 195).run Tryd.prog w = .ok (.agg (Array.replicate 256 (.bool false))) w) (s chars : ByteArray) (w : World) (h2 : 2 ≤ chars.size) (h8 : 8 < s.size) (hs : s.size < 4294967281) (hcs : chars.size < 4294967281) (hascii : ∀ (j : Nat) b, chars.data.toList[j]? = some b → b.toNat < 128) :
    Calls Tryd.prog 140 #[.string s, .string chars] w fun e w' => e = .returned (.int .i64 (Lib.indexAny s.data.toList chars.data.toList)) ∧ w' = ((w.alloc (.cells (Lib.setCells chars.data.toList) 195)).alloc (.cells (Lib.setCells chars.data.toList) 195)) := Any.strings_IndexAny_long Tryd.lays153 hv116 (by kernel_rfl) s chars w h2 h8 hs hcs hascii
open Go.RowKit Go.Lib in
/-- strings.IndexAny ON ASCII BYTES: the four roads under one statement. (LAID: no walk: one application.) -/
theorem Tryd.strings_IndexAny (hv116 : ∀ w, (zeroValue 195).run Tryd.prog w = .ok (.agg (Array.replicate 256 (.bool false))) w) (s chars : ByteArray) (w : World) (hs : s.size < 4294967281) (hcs : chars.size < 4294967281) (has : ∀ (j : Nat) b, s.data.toList[j]? = some b → b.toNat < 128) (hac : ∀ (j : Nat) b, chars.data.toList[j]? = some b → b.toNat < 128) :
    Calls Tryd.prog 140 #[.string s, .string chars] w fun e w' => e = .returned (.int .i64 (Lib.indexAny s.data.toList chars.data.toList)) ∧ Below w.heap.size w w' := Any.strings_IndexAny Tryd.lays153 hv116 (by kernel_rfl) s chars w hs hcs has hac
def Tryd.lays150_ren : Go.Shelf.Ren := ⟨fun | 150 => 102 | 153 => 140 | 152 => 165 | 226 => 166 | 227 => 167 | 228 => 168 | 137 => 187 | 119 => 188 | 224 => 177 | 225 => 176 | 217 => 175 | 266 => 190 | n => n, fun | 9 => 9 | 4 => 4 | 3 => 3 | 5 => 5 | 21 => 21 | 117 => 196 | 116 => 195 | 0 => 0 | 46 => 204 | 124 => 220 | n => n, fun | n => n⟩
theorem Tryd.lays150 : Go.Proofs.Lays.n150 Tryd.prog Tryd.lays150_ren := {
  mixed := by kernel_rfl
  f119 := Tryd.func188.trans (congrArg some (by kernel_rfl))
  f137 := Tryd.func187.trans (congrArg some (by kernel_rfl))
  f150 := Tryd.func102.trans (congrArg some (by kernel_rfl))
  f152 := Tryd.func165.trans (congrArg some (by kernel_rfl))
  f153 := Tryd.func140.trans (congrArg some (by kernel_rfl))
  f217 := Tryd.func175.trans (congrArg some (by kernel_rfl))
  f224 := Tryd.func177.trans (congrArg some (by kernel_rfl))
  f225 := Tryd.func176.trans (congrArg some (by kernel_rfl))
  f226 := Tryd.func166.trans (congrArg some (by kernel_rfl))
  f227 := Tryd.func167.trans (congrArg some (by kernel_rfl))
  f228 := Tryd.func168.trans (congrArg some (by kernel_rfl))
  f266 := Tryd.func190.trans (congrArg some (by kernel_rfl))
  t0 := Tryd.underlying0
  a0 := Tryd.isAgg0
  z0 := Tryd.sizeOf0
  v0 := Tryd.zeroValue0
  t3 := Tryd.underlying3
  a3 := Tryd.isAgg3
  z3 := Tryd.sizeOf3
  v3 := Tryd.zeroValue3
  t4 := Tryd.underlying4
  a4 := Tryd.isAgg4
  z4 := Tryd.sizeOf4
  v4 := Tryd.zeroValue4
  t5 := Tryd.underlying5
  a5 := Tryd.isAgg5
  z5 := Tryd.sizeOf5
  v5 := Tryd.zeroValue5
  t9 := Tryd.underlying9
  a9 := Tryd.isAgg9
  z9 := Tryd.sizeOf9
  v9 := Tryd.zeroValue9
  t21 := Tryd.underlying21
  a21 := Tryd.isAgg21
  z21 := Tryd.sizeOf21
  v21 := Tryd.zeroValue21
  t46 := Tryd.underlying204
  a46 := Tryd.isAgg204
  z46 := Tryd.sizeOf204
  v46 := Tryd.zeroValue204
  t116 := Tryd.underlying195
  a116 := Tryd.isAgg195
  z116 := Tryd.sizeOf195
  t117 := Tryd.underlying196
  a117 := Tryd.isAgg196
  z117 := Tryd.sizeOf196
  v117 := Tryd.zeroValue196
  t124 := Tryd.underlying220
  a124 := Tryd.isAgg220
  z124 := Tryd.sizeOf220
  v124 := Tryd.zeroValue220 }
open Go.RowKit Go.Lib in
/-- strings.ContainsAny ON ASCII BYTES. (LAID: no walk: one application.) -/
theorem Tryd.strings_ContainsAny (hv116 : ∀ w, (zeroValue 195).run Tryd.prog w = .ok (.agg (Array.replicate 256 (.bool false))) w) (s chars : ByteArray) (w : World) (hs : s.size < 4294967281) (hcs : chars.size < 4294967281) (has : ∀ (j : Nat) b, s.data.toList[j]? = some b → b.toNat < 128) (hac : ∀ (j : Nat) b, chars.data.toList[j]? = some b → b.toNat < 128) :
    Calls Tryd.prog 102 #[.string s, .string chars] w fun e w' => e = .returned (.bool (Lib.containsAny s.data.toList chars.data.toList)) ∧ Below w.heap.size w w' := Any.strings_ContainsAny Tryd.lays150 hv116 (by kernel_rfl) s chars w hs hcs has hac
open Go.RowKit Go.Lib in
theorem Tryd.strings_IndexAny_laid (s chars : ByteArray) (w : World) (hs : s.size < 4294967281) (hcs : chars.size < 4294967281) (has : ∀ (j : Nat) b, s.data.toList[j]? = some b → b.toNat < 128) (hac : ∀ (j : Nat) b, chars.data.toList[j]? = some b → b.toNat < 128) :
    Calls Tryd.prog 140 #[.string s, .string chars] w fun e w' => e = .returned (.int .i64 (Lib.indexAny s.data.toList chars.data.toList)) ∧ Below w.heap.size w w' := Any.strings_IndexAny_laid Tryd.lays153 (by kernel_rfl) s chars w hs hcs has hac
open Go.RowKit Go.Lib in
theorem Tryd.strings_ContainsAny_laid (s chars : ByteArray) (w : World) (hs : s.size < 4294967281) (hcs : chars.size < 4294967281) (has : ∀ (j : Nat) b, s.data.toList[j]? = some b → b.toNat < 128) (hac : ∀ (j : Nat) b, chars.data.toList[j]? = some b → b.toNat < 128) :
    Calls Tryd.prog 102 #[.string s, .string chars] w fun e w' => e = .returned (.bool (Lib.containsAny s.data.toList chars.data.toList)) ∧ Below w.heap.size w w' := Any.strings_ContainsAny_laid Tryd.lays150 (by kernel_rfl) s chars w hs hcs has hac
end Go.Proofs
namespace Go.Proofs.YtdmfladcldkmeaaDoor
open Go.ChangeShapes Go.WideShapes Go.ChangeAt Go.RowKit
set_option linter.unusedVariables false
set_option maxRecDepth 100000

/-- What is decoded at a byte that is no ASCII is a rune beyond ASCII, and its bytes lie there and are no ASCII. -/
theorem dec_far (s : ByteArray) (i : Nat) (hi : i < s.size) (h : 128 ≤ (s.get! i).toNat) :
    128 ≤ (Utf8.decode s i).1 ∧ Utf8.valid (Utf8.decode s i).1 = true ∧ 1 ≤ (Utf8.decode s i).2 ∧ i + (Utf8.decode s i).2 ≤ s.size ∧ ∀ q, i ≤ q → q < i + (Utf8.decode s i).2 → 128 ≤ (s.get! q).toNat := by
  have one : 128 ≤ Utf8.runeError ∧ Utf8.valid Utf8.runeError = true ∧ 1 ≤ 1 ∧ i + 1 ≤ s.size ∧ ∀ q, i ≤ q → q < i + 1 → 128 ≤ (s.get! q).toNat :=
    ⟨by decide, by decide, by omega, by omega, fun q h1 h2 => (show q = i by omega) ▸ h⟩
  unfold Utf8.decode
  simp only [Nat.add_zero]
  rw [if_neg (by omega)]
  split
  · next hA =>
    simp only [Bool.and_eq_true, beq_iff_eq, decide_eq_true_eq] at hA
    split
    · next hB =>
      refine ⟨hB, ?_, by simp, by simp; omega, fun q h1 h2 => ?_⟩
      · unfold Utf8.valid
        simp only [Bool.or_eq_true, Bool.and_eq_true, decide_eq_true_eq]
        left
        constructor
        · omega
        · omega
      · simp only at h2
        rcases (by omega : q = i ∨ q = i + 1) with rfl | rfl
        · exact h
        · omega
    · exact one
  · split
    · next hA =>
      simp only [Bool.and_eq_true, beq_iff_eq, decide_eq_true_eq] at hA
      split
      · next hB =>
        simp only [Bool.and_eq_true, decide_eq_true_eq] at hB
        refine ⟨by simp only; omega, hB.2, by simp, by simp; omega, fun q h1 h2 => ?_⟩
        simp only at h2
        rcases (by omega : q = i ∨ q = i + 1 ∨ q = i + 2) with rfl | rfl | rfl
        · exact h
        · omega
        · omega
      · exact one
    · split
      · next hA =>
        simp only [Bool.and_eq_true, beq_iff_eq, decide_eq_true_eq] at hA
        split
        · next hB =>
          simp only [Bool.and_eq_true, decide_eq_true_eq] at hB
          refine ⟨by simp only; omega, hB.2, by simp, by simp; omega, fun q h1 h2 => ?_⟩
          simp only at h2
          rcases (by omega : q = i ∨ q = i + 1 ∨ q = i + 2 ∨ q = i + 3) with rfl | rfl | rfl | rfl
          · exact h
          · omega
          · omega
          · omega
        · exact one
      · exact one
/-- An iterator over a string in block b. -/
def IterAt (w : World) (b : Nat) (s : ByteArray) (i : Nat) : Prop := w.heap[b]? = some (.stringIter s i)
theorem IterAt.made (w : World) (s : ByteArray) : IterAt (w.iter s 0) w.heap.size s 0 := World.iter_heap w s 0
theorem IterAt.below {w w' : World} {b : Nat} {s : ByteArray} {i : Nat} (h : IterAt w b s i) (hb : Below w.heap.size w w') : IterAt w' b s i :=
  (hb.block b (Array.getElem?_eq_some_iff.1 h).1).trans h
def World.iterTo (w : World) (b : Nat) (s : ByteArray) (i : Nat) : World := { w with heap := w.heap.setIfInBounds b (.stringIter s i) }
theorem IterAt.next {w : World} {b : Nat} {s : ByteArray} {i : Nat} (h : IterAt w b s i) (k : Nat) : IterAt (World.iterTo w b s k) b s k := by
  have hlt := (Array.getElem?_eq_some_iff.1 h).1
  unfold IterAt World.iterTo
  simp [hlt]
theorem iterTo_below {w w' : World} {B b : Nat} (h : Below B w w') (hb : B ≤ b) (s : ByteArray) (i : Nat) : Below B w (World.iterTo w' b s i) := by
  refine ⟨h.os, h.tape, h.output, by unfold World.iterTo; simpa using h.size, fun k hk => ?_⟩
  rw [← h.block k hk]
  unfold World.iterTo
  simp only [Array.getElem?_setIfInBounds]
  rw [if_neg (by omega)]
theorem next_far (w : World) (b : Nat) (s : ByteArray) (i : Nat) (ty : TypeId) (h : IterAt w b s i) (hi : i < s.size) (c k : Nat) (e : Utf8.decode s i = (c, k)) :
    (Instr.next (.pointer (some ⟨b, 0, none⟩)) true ty).run Tryd.prog w = .ok (.tuple #[.bool true, .int .i64 i, .int .i32 c]) (World.iterTo w b s (i + k)) := by
  unfold IterAt at h
  simp only [Instr.next, getObj, setObj, Sem.run_bind, Sem.run, h, Result.andThen, hi, if_true, e]
  rfl
theorem next_end (w : World) (b : Nat) (s : ByteArray) (i : Nat) (ty : TypeId) (h : IterAt w b s i) (hi : ¬ i < s.size) :
    (Instr.next (.pointer (some ⟨b, 0, none⟩)) true ty).run Tryd.prog w = .ok (.tuple #[.bool false]) w := by
  unfold IterAt at h
  simp [Instr.next, getObj, Sem.run, h, hi]

theorem vrune_any (r : Nat) (w : World) (hv : Utf8.valid r = true) : Calls Tryd.prog 188 #[.int .i32 (r : Int)] w fun e w' => e = .returned (.bool true) ∧ w' = w := by
  unfold Utf8.valid at hv
  simp only [Bool.or_eq_true, Bool.and_eq_true, decide_eq_true_eq] at hv
  rcases hv with ⟨h0, h1⟩ | ⟨h0, h1⟩
  · have i1 : (r : Int) < 55296 := by omega
    have i0 : (0 : Int) ≤ (r : Int) := by omega
    clear h0 h1
    go_enter Tryd.func188, Tryd.ntmps188
    go_wp2_with fail
    go_ret
    exact ⟨rfl, rfl⟩
  · have i1 : ¬ (r : Int) < 55296 := by omega
    have i0 : (0 : Int) ≤ (r : Int) := by omega
    have i2 : (57343 : Int) < (r : Int) := by omega
    have i3 : (r : Int) ≤ 1114111 := by omega
    clear h0 h1
    go_enter Tryd.func188, Tryd.ntmps188
    go_wp2_with fail
    go_ret
    exact ⟨rfl, rfl⟩
set_option maxHeartbeats 4000000 in
/-- The rune of a fault: looked for one by one. -/
theorem idxErr_any (w : World) : Calls Tryd.prog 165 #[.string ⟨#[60, 34]⟩, .int .i32 65533] w fun e w' => e = .returned (.int .i64 (-1)) ∧ Below w.heap.size w w' := by
  have H0 := IterAt.made w ⟨#[60, 34]⟩
  have HB0 := (Below.refl w.heap.size w).alloc (Nat.le_refl _) (.stringIter ⟨#[60, 34]⟩ 0)
  have HH := Lib.hid H0
  have HB := Lib.hid HB0
  clear H0 HB0
  go_enter Tryd.func165, Tryd.ntmps165
  go_wp2_with fail
  go_loopg [5, 6] 2 (fun g _ _ wx => ∃ i : Nat, i + g = 2 ∧ IterAt wx w.heap.size ⟨#[60, 34]⟩ i ∧ Below w.heap.size w wx)
  case atStart => exact ⟨0, rfl, HH.out, HB.out⟩
  case round =>
    obtain ⟨i, hig, hit, hb⟩ := hrel
    have KB := Lib.hid hb
    cases gk with
    | zero =>
      obtain rfl : i = 2 := by omega
      have N := fun ty => next_end wr w.heap.size ⟨#[60, 34]⟩ 2 ty hit (by decide)
      clear hit hb
      go_wp2_with fail
      go_ret
      exact ⟨rfl, KB.out⟩
    | succ g =>
      rcases (by omega : i = 0 ∨ i = 1) with rfl | rfl
      · have N := fun ty => next_far wr w.heap.size ⟨#[60, 34]⟩ 0 ty hit (by decide) 60 1 (by decide)
        have HN := Lib.hid (hit.next 1)
        clear hit hb
        go_wp2_with fail
        go_roundg g
        case measure => omega
        case rel => exact ⟨1, by omega, HN.out, iterTo_below KB.out (Nat.le_refl _) _ _⟩
      · have N := fun ty => next_far wr w.heap.size ⟨#[60, 34]⟩ 1 ty hit (by decide) 34 1 (by decide)
        have HN := Lib.hid (hit.next 2)
        clear hit hb
        go_wp2_with fail
        go_roundg g
        case measure => omega
        case rel => exact ⟨2, by omega, HN.out, iterTo_below KB.out (Nat.le_refl _) _ _⟩
/-- The bytes of a rune beyond ASCII. -/
theorem enc_far (r : Int) (hv : Utf8.valid r = true) (h : 128 ≤ r) : ∃ l : List UInt8, Utf8.encode r = ⟨l.toArray⟩ ∧ ((∃ a b, l = [a, b] ∧ 128 ≤ b.toNat) ∨ (∃ a b c, l = [a, b, c]) ∨ ∃ a b c d, l = [a, b, c, d]) := by
  unfold Utf8.encode
  simp only [hv, if_true]
  rw [if_neg (by omega)]
  split
  · exact ⟨_, rfl, .inl ⟨_, _, rfl, by simp; omega⟩⟩
  · split
    · exact ⟨_, rfl, .inr (.inl ⟨_, _, _, rfl⟩)⟩
    · exact ⟨_, rfl, .inr (.inr ⟨_, _, _, _, rfl⟩)⟩
set_option maxHeartbeats 4000000 in
/-- A rune beyond ASCII is not among the two marks. -/
theorem idxRune_far (r : Nat) (w : World) (hv : Utf8.valid r = true) (h : 128 ≤ r) : Calls Tryd.prog 165 #[.string ⟨#[60, 34]⟩, .int .i32 (r : Int)] w fun e w' => e = .returned (.int .i64 (-1)) ∧ Below w.heap.size w w' := by
  by_cases he : r = 65533
  · subst he
    exact idxErr_any w
  have t0 : ((r : Int) == 65533) = false := by simp; omega
  have i0 : ¬ ((r : Int) < 128) := by omega
  have KV := Lib.hid (vrune_any r w hv)
  obtain ⟨l, hl, hk⟩ := enc_far r hv (by omega)
  rcases hk with ⟨a, b, rfl, hb⟩ | ⟨a, b, c, rfl⟩ | ⟨a, b, c, d, rfl⟩
  · have x0 : ∀ W : World, (Instr.index 9 (.string ⟨#[60, 34]⟩) (.int .i64 (1 : Int))).run Tryd.prog W = .ok (.int .u8 (34 : Int)) W := fun W => str_idx [60, 34] 1 (by simp) W
    have x1 : ∀ W : World, (Instr.index 9 (.string ⟨#[a, b]⟩) (.int .i64 (1 : Int))).run Tryd.prog W = .ok (.int .u8 (b.toNat : Int)) W := fun W => str_idx [a, b] 1 (by simp) W
    have x2 : ∀ W : World, (Instr.slice 9 (.string ⟨#[60, 34]⟩) (some (.int .i64 (2 : Int))) none none).run Tryd.prog W = .ok (.string ⟨#[]⟩) W := fun W => by kernel_rfl
    have t1 : ((34 : Int) != (b.toNat : Int)) = true := by simp; omega
    have t2 : ((34 : Int) == (b.toNat : Int)) = false := by simp; omega
    have KI := Lib.hid (fun (W : World) => show Calls Tryd.prog 187 #[.string ⟨#[]⟩, .int .u8 (b.toNat : Int)] W fun e w' => e = .returned (.int .i64 (-1)) ∧ W = w' from (Tryd.strings_IndexByte ⟨#[]⟩ (b.toNat : Int) W).mono fun e w' h => ⟨h.1, h.2.symm⟩)
    have HL := Lib.hid hl
    have hsz : (⟨#[a, b]⟩ : ByteArray).size = 2 := rfl
    clear hv he hb hl
    go_enter Tryd.func165, Tryd.ntmps165
    go_wp2_with fail
    refine KV.out.mono ?_
    rintro e w1 ⟨rfl, hw1⟩
    have HB1 := Lib.hid (show Below w.heap.size w w1 from hw1 ▸ Below.refl _ _)
    have hl := HL.out
    clear hw1
    go_wp2_with fail
    go_step3
    go_wp2_with fail
    clear hl
    (try go_step3)
    go_wp2_with fail
    go_loopw [9] (fun i wr => i = .int .i64 1 ∧ wr = w1) (fun _ _ => 0)
    case atStart => exact ⟨rfl, rfl⟩
    case round =>
      obtain ⟨rfl, rfl⟩ := hrel
      go_wp2_with fail
      go_step3
      go_wp2_with fail
      go_quiet (fail)
      go_wp2_with fail
      obtain ⟨V, hV⟩ : ∃ V, wr.drewN nq = V := ⟨_, rfl⟩
      have HBV := Lib.hid (show Below w.heap.size w V from hV ▸ below_drw HB1.out _)
      rw [hV]
      clear hV
      have HQ := Lib.hid (fun m => quiet_l (KI.out (V.drewN m)))
      have wr2 : IntKind.i64.wrap (2 : Int) = 2 := by decide
      go_quiet ((go_at_call 187; exact HQ.out _))
      go_wp2_with fail
      (try go_step3)
      go_wp2_with fail
      try rw [Exit.noGoto_ret]
      simp (config := { zetaDelta := true }) only [Exit.inBlock, Exit.then, Exit.noGoto_ret]
      go_ret
      exact ⟨rfl, below_drw HBV.out _⟩
  · have hsz : (⟨#[a, b, c]⟩ : ByteArray).size = 3 := rfl
    have HL := Lib.hid hl
    clear hv he hl
    go_enter Tryd.func165, Tryd.ntmps165
    go_wp2_with fail
    refine KV.out.mono ?_
    rintro e w1 ⟨rfl, hw1⟩
    have HB1 := Lib.hid (show Below w.heap.size w w1 from hw1 ▸ Below.refl _ _)
    have hl := HL.out
    clear hw1
    go_wp2_with fail
    go_step3
    go_wp2_with fail
    clear hl
    (try go_step3)
    go_wp2_with fail
    go_loopw [9] (fun i wr => i = .int .i64 2 ∧ wr = w1) (fun _ _ => 0)
    case atStart => exact ⟨rfl, rfl⟩
    case round =>
      obtain ⟨rfl, rfl⟩ := hrel
      go_wp2_with fail
      (try go_step3)
      go_wp2_with fail
      try rw [Exit.noGoto_ret]
      go_ret
      exact ⟨rfl, HB1.out⟩
  · have hsz : (⟨#[a, b, c, d]⟩ : ByteArray).size = 4 := rfl
    have HL := Lib.hid hl
    clear hv he hl
    go_enter Tryd.func165, Tryd.ntmps165
    go_wp2_with fail
    refine KV.out.mono ?_
    rintro e w1 ⟨rfl, hw1⟩
    have HB1 := Lib.hid (show Below w.heap.size w w1 from hw1 ▸ Below.refl _ _)
    have hl := HL.out
    clear hw1
    go_wp2_with fail
    go_step3
    go_wp2_with fail
    clear hl
    (try go_step3)
    go_wp2_with fail
    go_loopw [9] (fun i wr => i = .int .i64 3 ∧ wr = w1) (fun _ _ => 0)
    case atStart => exact ⟨rfl, rfl⟩
    case round =>
      obtain ⟨rfl, rfl⟩ := hrel
      go_wp2_with fail
      (try go_step3)
      go_wp2_with fail
      try rw [Exit.noGoto_ret]
      go_ret
      exact ⟨rfl, HB1.out⟩
end Go.Proofs.YtdmfladcldkmeaaDoor
namespace Go.Proofs.YtdmfladcldkmeaaDoor
open Go.ChangeShapes Go.WideShapes Go.ChangeAt Go.RowKit
set_option linter.unusedVariables false
set_option maxRecDepth 100000

theorem noAny_far {l : List UInt8} {i k : Nat} (h : Lib.NoAny l [60, 34] i) (hf : ∀ q, i ≤ q → q < i + k → 128 ≤ ((⟨l.toArray⟩ : ByteArray).get! q).toNat) : Lib.NoAny l [60, 34] (i + k) := by
  intro j b hj hb
  by_cases hji : j < i
  · exact h j b hji hb
  · have h1 := hf j (by omega) (by omega)
    have h2 : ((⟨l.toArray⟩ : ByteArray).get! j) = b := by
      show l.toArray[j]! = b
      rw [getElem!_def]
      simp [hb]
    rw [h2] at h1
    have n1 : b ≠ 60 := fun e => by rw [e] at h1; exact absurd h1 (by decide)
    have n2 : b ≠ 34 := fun e => by rw [e] at h1; exact absurd h1 (by decide)
    simp [n1, n2]
theorem get_at {l : List UInt8} {i : Nat} {x : UInt8} (h : l[i]? = some x) : ((⟨l.toArray⟩ : ByteArray).get! i) = x := by
  show l.toArray[i]! = x
  rw [getElem!_def]
  simp [h]
theorem dec_near {l : List UInt8} {i : Nat} {x : UInt8} (h : l[i]? = some x) (h8 : x.toNat < 128) : Utf8.decode ⟨l.toArray⟩ i = (x.toNat, 1) := by
  have hi : i < (⟨l.toArray⟩ : ByteArray).size := by rw [str_size]; exact (List.getElem?_eq_some_iff.1 h).1
  have e : (⟨l.toArray⟩ : ByteArray)[i]'hi = x := (List.getElem?_eq_some_iff.1 h).2
  rw [decode_ascii _ _ hi (by rw [e]; exact h8), e]
set_option maxHeartbeats 4000000 in
theorem idxAny_short (l : List UInt8) (w : World) (h8 : l.length ≤ 8) :
    Calls Tryd.prog 140 #[strV l, .string ⟨#[60, 34]⟩] w fun e w' => e = .returned (.int .i64 (Lib.indexAny l [60, 34])) ∧ Below w.heap.size w w' := by
  have z1 := str_size l
  have d8 : decide ((8 : Int) < (l.length : Int)) = false := decide_eq_false (by omega)
  have KS := Lib.hid (fun W : World => (Tryd.strings_shouldUseASCIISet (l.length : Int) W).mono fun e w' h => (show e = .returned (.bool false) ∧ W = w' from ⟨d8 ▸ h.1, h.2.symm⟩))
  have H0 := IterAt.made w ⟨l.toArray⟩
  have HB0 := (Below.refl w.heap.size w).alloc (Nat.le_refl _) (.stringIter ⟨l.toArray⟩ 0)
  have HH := Lib.hid H0
  have HB := Lib.hid HB0
  have HZ := Lib.hid z1
  clear H0 HB0 d8 h8
  go_enter Tryd.func140, Tryd.ntmps140
  go_wp2_with fail
  refine (KS.out _).mono ?_
  rintro e w1 ⟨rfl, rfl⟩
  go_wp2_with fail
  go_loopg [9, 10] l.length (fun g _ _ wx => ∃ i : Nat, i ≤ l.length ∧ l.length ≤ i + g ∧ IterAt wx w.heap.size ⟨l.toArray⟩ i ∧ Below w.heap.size w wx ∧ w.heap.size < wx.heap.size ∧ Lib.NoAny l [60, 34] i)
  case atStart => exact ⟨0, Nat.zero_le _, by omega, HH.out, HB.out, (Array.getElem?_eq_some_iff.1 HH.out).1, Lib.NoAny.zero _ _⟩
  case round =>
    obtain ⟨i, hi, hg, hit, hb, hlt, hno⟩ := hrel
    have KB := Lib.hid hb
    have HN := Lib.hid hno
    by_cases hil : i < l.length
    · obtain ⟨x, hx⟩ : ∃ x, l[i]? = some x := ⟨_, List.getElem?_eq_getElem hil⟩
      have HX := Lib.hid hx
      by_cases hx8 : x.toNat < 128
      · have N := fun ty => next_far wr w.heap.size ⟨l.toArray⟩ i ty hit (by rw [HZ.out]; exact hil) x.toNat 1 (dec_near hx hx8)
        have HT := Lib.hid (hit.next (i + 1))
        have HB1 := Lib.hid (iterTo_below hb (Nat.le_refl _) ⟨l.toArray⟩ (i + 1))
        have HC := Lib.hid (Lib.contains_iff_indexByte [60, 34] x)
        have KR := Lib.hid (fun W : World => (Tryd.strings_IndexRune_ascii ⟨#[60, 34]⟩ (x.toNat : Int) W (by omega) (by omega)).mono fun e w' h => (show e = .returned (.int .i64 (Lib.indexByte [60, 34] x)) ∧ W = w' from ⟨by rw [h.1]; simp, h.2.symm⟩))
        clear hit hb hno hx
        cases hin : ([60, 34] : List UInt8).contains x
        · have hneg : ¬ ((0 : Int) ≤ Lib.indexByte [60, 34] x) := by have := HC.out; rw [hin] at this; exact of_decide_eq_false this.symm
          go_wp2_with fail
          refine (KR.out _).mono ?_
          rintro e w2 ⟨rfl, rfl⟩
          go_wp2_with fail
          go_roundg (l.length - (i + 1))
          case measure => omega
          case rel => exact ⟨i + 1, by omega, by omega, HT.out, HB1.out, (Array.getElem?_eq_some_iff.1 HT.out).1, HN.out.succ HX.out hin⟩
        · have hge : ((0 : Int) ≤ Lib.indexByte [60, 34] x) := by have := HC.out; rw [hin] at this; exact of_decide_eq_true this.symm
          go_wp2_with fail
          refine (KR.out _).mono ?_
          rintro e w2 ⟨rfl, rfl⟩
          go_wp2_with fail
          go_ret
          exact ⟨by rw [Lib.indexAny_hit HN.out HX.out hin]; rfl, HB1.out⟩
      · have hfar := dec_far ⟨l.toArray⟩ i (by rw [HZ.out]; exact hil) (by rw [get_at hx]; omega)
        obtain ⟨c, k, hck⟩ : ∃ c k, Utf8.decode ⟨l.toArray⟩ i = (c, k) := ⟨_, _, rfl⟩
        rw [hck] at hfar
        obtain ⟨f1, f2, f3, f4, f5⟩ := hfar
        simp only at f1 f2 f3 f4 f5
        rw [HZ.out] at f4
        have N := fun ty => next_far wr w.heap.size ⟨l.toArray⟩ i ty hit (by rw [HZ.out]; exact hil) c k hck
        have HT := Lib.hid (hit.next (i + k))
        have HB1 := Lib.hid (iterTo_below hb (Nat.le_refl _) ⟨l.toArray⟩ (i + k))
        have KR := Lib.hid (fun W : World => idxRune_far c W f2 f1)
        have HF := Lib.hid (noAny_far HN.out f5)
        clear hit hb hno hx f5 f2 hck
        go_wp2_with fail
        refine (KR.out _).mono ?_
        rintro e w2 ⟨rfl, hb2⟩
        have HT2 := Lib.hid (HT.out.below hb2)
        have HB2 := Lib.hid (HB1.out.trans (hb2.mono (Nat.le_of_lt (Array.getElem?_eq_some_iff.1 HT.out).1)))
        clear hb2
        go_wp2_with fail
        go_roundg (l.length - (i + k))
        case measure => omega
        case rel => exact ⟨i + k, by omega, by omega, HT2.out, HB2.out, (Array.getElem?_eq_some_iff.1 HT2.out).1, HF.out⟩
    · obtain rfl : i = l.length := by omega
      have N := fun ty => next_end wr w.heap.size ⟨l.toArray⟩ l.length ty hit (by rw [HZ.out]; omega)
      clear hit hb hno
      go_wp2_with fail
      go_ret
      exact ⟨by rw [Lib.indexAny_none HN.out]; rfl, KB.out⟩
theorem idxAny_any (l : List UInt8) (w : World) (h9 : l.length ≤ 1000000) :
    Calls Tryd.prog 140 #[strV l, .string ⟨#[60, 34]⟩] w fun e w' => e = .returned (.int .i64 (Lib.indexAny l [60, 34])) ∧ Below w.heap.size w w' := by
  by_cases h8 : l.length ≤ 8
  · exact idxAny_short l w h8
  · have z1 := str_size l
    refine (Tryd.strings_IndexAny_long (zero_of_info (n := 256) (by kernel_rfl)).1 ⟨l.toArray⟩ ⟨#[60, 34]⟩ w (by decide) (by omega) (by omega) (by decide) ?_).mono fun e w' h => ⟨?_, ?_⟩
    · intro j b hb
      match j, hb with
      | 0, hb => obtain rfl : (60 : UInt8) = b := by simpa using hb
                 decide
      | 1, hb => obtain rfl : (34 : UInt8) = b := by simpa using hb
                 decide
      | j + 2, hb => simp at hb
    · rw [h.1]
    · rw [h.2]
      exact (((Below.refl w.heap.size w).alloc (Nat.le_refl _) _).alloc (by simp) _)
set_option maxHeartbeats 1000000 in
theorem cany_any (l : List UInt8) (w : World) (h9 : l.length ≤ 1000000) :
    Calls Tryd.prog 102 #[strV l, .string ⟨#[60, 34]⟩] w fun e w' => e = .returned (.bool (Lib.containsAny l [60, 34])) ∧ Below w.heap.size w w' := by
  have K := Lib.hid (idxAny_any l w h9)
  clear h9
  go_enter Tryd.func102, Tryd.ntmps102
  go_wp2_with fail
  refine K.out.mono ?_
  rintro e w1 ⟨rfl, hb⟩
  go_wp2_with fail
  go_ret
  exact ⟨rfl, hb⟩
/-- Is one of the two marks among the bytes? -/
theorem cany_iff (l : List UInt8) : Lib.containsAny l [60, 34] = l.any fun b => b == 60 || b == 34 := by
  induction l with
  | nil => rfl
  | cons b t ih =>
    unfold Lib.containsAny at ih ⊢
    rw [Lib.indexAny, List.any_cons, ← ih]
    have hge := Lib.indexAny_ge [60, 34] t
    have hc : ([60, 34] : List UInt8).contains b = (b == 60 || b == 34) := by
      show (b == 60 || (b == 34 || false)) = _
      rw [Bool.or_false]
    rw [← hc]
    cases h : ([60, 34] : List UInt8).contains b
    · simp only [Bool.false_eq_true, if_false, Bool.false_or, decide_eq_decide]
      split
      · next h1 => have := beq_iff_eq.1 h1; omega
      · next h1 => simp only [beq_iff_eq] at h1; omega
    · simp
end Go.Proofs.YtdmfladcldkmeaaDoor
namespace Go.Proofs.YtdmfladcldkmeaaDoor
open Go.ChangeShapes Go.WideShapes Go.ChangeAt Go.RowKit Go.Maps
set_option linter.unusedVariables false
set_option maxRecDepth 100000

/-- A malformed attribute. -/
def badP (p : List UInt8 × List UInt8) : Bool := decide (refsE p.2 ≠ 0) || (!(wholeB p.1 startN charN) || Lib.containsAny p.2 [60, 34])
def malK (s : List UInt8) (ps : Prs) (k : Nat) : Bool := !(wholeB s startN charN) || (ps.take k).any badP
def longK (s : List UInt8) (ps : Prs) (k : Nat) : Bool := decide (1024 < s.length) || (ps.take k).any fun p => decide (1024 < p.1.length)
def dupK (ps : Prs) (k : Nat) : Bool := (List.range k).any fun i => match ps[i]? with | some p => hasN (ps.take i) p.1 | none => false
/-- What keeps a tag from being written. -/
def faultT (s : List UInt8) (ps : Prs) : Int := if malK s ps ps.length then 7 else if longK s ps ps.length then 11 else if dupK ps ps.length then 12 else 0
theorem malK_next {s : List UInt8} {ps : Prs} {k : Nat} {p : List UInt8 × List UInt8} (hp : ps[k]? = some p) : malK s ps (k + 1) = (malK s ps k || badP p) := by
  unfold malK
  rw [List.take_add_one, hp, List.any_append]
  simp [Bool.or_assoc]
theorem longK_next {s : List UInt8} {ps : Prs} {k : Nat} {p : List UInt8 × List UInt8} (hp : ps[k]? = some p) : longK s ps (k + 1) = (longK s ps k || decide (1024 < p.1.length)) := by
  unfold longK
  rw [List.take_add_one, hp, List.any_append]
  simp [Bool.or_assoc]
theorem dupK_next {ps : Prs} {k : Nat} {p : List UInt8 × List UInt8} (hp : ps[k]? = some p) : dupK ps (k + 1) = (dupK ps k || hasN (ps.take k) p.1) := by
  unfold dupK
  rw [List.range_succ, List.any_append]
  simp [hp]
theorem malK_zero (s : List UInt8) (ps : Prs) : malK s ps 0 = !(wholeB s startN charN) := by unfold malK; simp
theorem longK_zero (s : List UInt8) (ps : Prs) : longK s ps 0 = decide (1024 < s.length) := by unfold longK; simp
theorem dupK_zero (ps : Prs) : dupK ps 0 = false := rfl
theorem key_strU (s : List UInt8) (h : s.length ≤ 2000) : keyOf Tryd.prog 9 (strV s) = some (.string s) := Go.WideMaps.keyOf_string_mk (s := ⟨s.toArray⟩) Tryd.underlying9 (by have := str_size s; unfold maxLen; omega)
/-- What holds at the head of each round. -/
def FRel (s : List UInt8) (ps : Prs) (B BM : Nat) (W : World) (m l t i : Value) (wr : World) : Prop :=
  ∃ (k : Nat) (D : DataW Unit) (mb lb tb : Bool), k ≤ ps.length ∧ i = .int .i64 k ∧ m = .bool mb ∧ l = .bool lb ∧ t = .bool tb ∧ malK s ps k = mb ∧ longK s ps k = lb ∧ dupK ps k = tb ∧
    wr.ownsMap Tryd.prog 9 (plainElem Tryd.prog 3) BM k D ∧ HasIs D (ps.take k) ∧ Below B W wr ∧ BM < wr.heap.size
theorem FRel_mk {s : List UInt8} {ps : Prs} {B BM : Nat} {W wr : World} {mb lb tb : Bool} (k : Nat) (D : DataW Unit) (h1 : k ≤ ps.length) (h2 : malK s ps k = mb) (h3 : longK s ps k = lb) (h4 : dupK ps k = tb)
    (h5 : wr.ownsMap Tryd.prog 9 (plainElem Tryd.prog 3) BM k D) (h6 : HasIs D (ps.take k)) (h7 : Below B W wr) (h8 : BM < wr.heap.size) : FRel s ps B BM W (.bool mb) (.bool lb) (.bool tb) (.int .i64 k) wr := ⟨k, D, mb, lb, tb, h1, rfl, rfl, rfl, rfl, h2, h3, h4, h5, h6, h7, h8⟩
theorem pair_cells (w : World) (a b : Value) (T : TypeId) (w' : World) (h : Below (w.heap.size + 1) (w.alloc (.cells #[a, b] T)) w') : w'.cell? ⟨w.heap.size, 0, none⟩ = some a ∧ w'.cell? ⟨w.heap.size, 1, none⟩ = some b := by
  have e0 : (w.alloc (.cells #[a, b] T)).cell? ⟨w.heap.size, 0, none⟩ = some a := by simp [World.cell?_alloc_new]
  have e1 : (w.alloc (.cells #[a, b] T)).cell? ⟨w.heap.size, 1, none⟩ = some b := by simp [World.cell?_alloc_new]
  exact ⟨(h.cell (Nat.lt_succ_self _)).trans e0, (h.cell (Nat.lt_succ_self _)).trans e1⟩
set_option maxHeartbeats 8000000 in
theorem fault_any (s : List UInt8) (ps : Prs) (e : Bool) (A : Option Addr) (n c : Nat) (w : World) (hn : ps.length = n) (hn9 : n ≤ 1000) (hsl : s.length ≤ 2000) (hpl : ∀ p ∈ ps, p.1.length ≤ 2000 ∧ p.2.length ≤ 2000) (hs : Sees w A (vQ ps)) (ht : TabC w) :
    Calls Tryd.prog 56 #[.agg #[strV s, .slice A n c, .bool e]] w fun e1 w' => e1 = .returned (.int .i64 (faultT s ps)) ∧ Below w.heap.size w w' := by
  have B0 := (Below.refl w.heap.size w).alloc (Nat.le_refl _) (.cells #[strV s, .slice A n c, .bool e] 30)
  obtain ⟨WA, hWA⟩ : ∃ WA, w.alloc (.cells #[strV s, .slice A n c, .bool e] 30) = WA := ⟨_, rfl⟩
  have T0 := Lib.hid (show Tri WA w.heap.size (strV s) (.slice A n c) (.bool e) 30 from hWA ▸ Tri.new w (strV s) (.slice A n c) (.bool e) 30 _ rfl)
  have hz0 : WA.heap.size = w.heap.size + 1 := by rw [← hWA]; simp
  rw [hWA] at B0
  have HN := Lib.hid hn
  have HS := Lib.hid (fun (W' : World) (hb : Below w.heap.size w W') => hs.below hb)
  have KT := Lib.hid (fun (W' : World) (hb : Below w.heap.size w W') => ht.below hb)
  have HB0 := Lib.hid B0
  have HWA := Lib.hid hWA
  have HPL := Lib.hid hpl
  have HZ0 := Lib.hid hz0
  have KN := Lib.hid (fun (W' : World) (hb : Below w.heap.size w W') => isName_any s W' (by omega) (ht.below hb).toN)
  have KC := Lib.hid (fun (W' : World) (hb : Below (w.heap.size + 1) WA W') => T0.out.low hb (Nat.lt_succ_self _))
  obtain ⟨t0, t1, t2⟩ := T0.out.at
  have z0 := str_size s
  have hmm := @run_makeMap Tryd.prog
  obtain ⟨V, hV⟩ : ∃ V, faultT s ps = V := ⟨_, rfl⟩
  have HV := Lib.hid hV
  rw [hV]
  clear hn hs ht B0 hWA hpl hz0 hV
  go_enter Tryd.func56, Tryd.ntmps56
  go_wp2_with fail
  rw [HWA.out]
  go_cut [3, 4, 5] (fun s3 s4 s5 wx => s3 = .bool (malK s ps 0) ∧ s4 = .bool (longK s ps 0) ∧ s5 = .bool (dupK ps 0) ∧ Below (w.heap.size + 1) WA wx)
  case first =>
    go_region_held3 (fun w' => Below (w.heap.size + 1) WA w' ∧ w'.cell? ⟨w.heap.size, 0, none⟩ = some (.string ⟨s.toArray⟩))
      (first | exact ⟨(Below.refl _ _).drew, (KC.out _ (Below.refl _ _).drew).at.1⟩ | (rename_i hb5; exact ⟨hb5, (KC.out _ hb5).at.1⟩))
      (first
        | (go_at_call 60; refine (KN.out _ HB0.out.drew).mono ?_; rintro e w5 ⟨rfl, hb⟩; have hb5 : Below (w.heap.size + 1) WA w5 := (Below.refl _ _).drew.trans (hb.mono (Nat.le_of_eq HZ0.out.symm)); clear hb))
    go_wp2_with fail
    go_meet
    exact ⟨by rw [malK_zero], by rw [longK_zero]; exact congrArg Value.bool (decide_eq_decide.2 (by omega)), rfl, hb5⟩
  case rest =>
    obtain ⟨rfl, rfl, rfl, hwc⟩ := hcut
    have T5 := KC.out _ hwc
    have t1' : ∀ o, (wc.alloc o).cell? ⟨w.heap.size, 1, none⟩ = some (.slice A n c) := fun o => (T5.alloc o).at.2.1
    have HB5 := Lib.hid (HB0.out.trans (hwc.mono (Nat.le_succ _)))
    have HZ5 := Lib.hid (show w.heap.size ≤ wc.heap.size from HB5.out.size)
    clear T5 hwc t0 t1 t2 KN T0 KC HZ0 HB0 HWA
    go_wp2_with fail
    go_loopw [3, 4, 5, 25] (fun m l t i wr => FRel s ps w.heap.size wc.heap.size w m l t i wr) (fun _ _ _ i _ => n - (intOf i).toNat)
    case atStart => exact FRel_mk 0 (.map []) (Nat.zero_le _) rfl rfl rfl (World.ownsMap_made _ _ _ _) hasIs_nil (HB5.out.alloc HZ5.out _) (by simp)
    case round =>
      obtain ⟨k, D, mb, lb, tb, hk, rfl, rfl, rfl, rfl, hmb, hlb, htb, hmap, hD, hB, hZ⟩ := hrel
      rw [HN.out] at hk
      have HM := Lib.hid hmap
      have HB := Lib.hid hB
      have HZ := Lib.hid hZ
      have HMB := Lib.hid hmb
      have HLB := Lib.hid hlb
      have HTB := Lib.hid htb
      by_cases hlt : k < n
      · obtain ⟨p, hp⟩ : ∃ p, ps[k]? = some p := ⟨_, List.getElem?_eq_getElem (by rw [HN.out]; exact hlt)⟩
        obtain ⟨a1, rfl, h1, h2⟩ := (HS.out wr hB).pair hp
        have HP := Lib.hid hp
        have HD1 := Lib.hid (show ∀ d, HasIs (D.put (.string p.1) d) (ps.take (k + 1)) from fun d => by
          rw [List.take_add_one, hp]
          exact hasIs_put hD hmap.isMap p.1 p.2)
        have hpp := HPL.out p (List.mem_of_getElem? hp)
        obtain ⟨x, y⟩ := p
        simp only at hpp
        have z1 := str_size x
        have z2 := str_size y
        have HKEY := Lib.hid (key_strU x (by omega))
        have HHAS := Lib.hid (hD x)
        have HWF := Lib.hid (show (Lit.int .i64 (k : Int)).wf = true from WalkArith.wf_i64 (by omega))
        obtain ⟨r, hr⟩ : ∃ r, refsE y = r := ⟨_, rfl⟩
        obtain ⟨bn, hbn⟩ : ∃ bn, wholeB x startN charN = bn := ⟨_, rfl⟩
        obtain ⟨cb, hcb⟩ : ∃ cb, Lib.containsAny y [60, 34] = cb := ⟨_, rfl⟩
        have HR := Lib.hid hr
        have HBN := Lib.hid hbn
        have HCB := Lib.hid hcb
        obtain ⟨PB, hPB⟩ : ∃ PB, wr.heap.size = PB := ⟨_, rfl⟩
        have HPB := Lib.hid hPB
        obtain ⟨W1, hW1⟩ : ∃ W1, wr.alloc (.cells #[.string ⟨x.toArray⟩, .string ⟨y.toArray⟩] 41) = W1 := ⟨_, rfl⟩
        have HW1 := Lib.hid hW1
        have hz1 : PB + 1 = W1.heap.size := by rw [← hW1, ← hPB]; simp
        have HB1 : Below w.heap.size w W1 := hW1 ▸ hB.alloc hB.size _
        have KG := Lib.hid (fun (W' : World) (h : Below (PB + 1) W1 W') => HB1.trans (h.mono (by have := hB.size; omega)))
        have KM := Lib.hid (fun (W' : World) (h : Below (PB + 1) W1 W') => m_below (hmap) (show Below wr.heap.size wr W' from (hW1 ▸ (Below.refl _ wr).alloc (Nat.le_refl _) _ : Below wr.heap.size wr W1).trans (h.mono (by omega))))
        have KP := Lib.hid (fun (W' : World) (h : Below (PB + 1) W1 W') => pair_cells wr (.string ⟨x.toArray⟩) (.string ⟨y.toArray⟩) 41 W' (by rw [hW1, hPB]; exact h))
        rw [hPB] at KP
        have KS := Lib.hid (fun (W' : World) (h : Below (PB + 1) W1 W') => (show PB + 1 ≤ W'.heap.size from by have := h.size; omega))
        have KR := Lib.hid (fun (W' : World) (h : Below (PB + 1) W1 W') => show Calls Tryd.prog 101 #[strV y] W' fun e w' => e = .returned (.tuple #[.int .i64 (refsN y y.length 0).1, .int .i64 r]) ∧ Below (PB + 1) W1 w' from
          (refs_any y W' (by omega) (KT.out W' (KG.out W' h))).mono fun e w' h2 => ⟨by rw [h2.1, ← hr]; rfl, h.trans (h2.2.mono (KS.out W' h))⟩)
        have KI := Lib.hid (fun (W' : World) (h : Below (PB + 1) W1 W') => show Calls Tryd.prog 60 #[strV x] W' fun e w' => e = .returned (.bool bn) ∧ Below (PB + 1) W1 w' from
          (isName_any x W' (by omega) (KT.out W' (KG.out W' h)).toN).mono fun e w' h2 => ⟨by rw [h2.1, ← hbn], h.trans (h2.2.mono (KS.out W' h))⟩)
        have KCA := Lib.hid (fun (W' : World) (h : Below (PB + 1) W1 W') => show Calls Tryd.prog 102 #[strV y, .string ⟨#[60, 34]⟩] W' fun e w' => e = .returned (.bool cb) ∧ Below (PB + 1) W1 w' from
          (cany_any y W' (by omega)).mono fun e w' h2 => ⟨by rw [h2.1, ← hcb], h.trans (h2.2.mono (KS.out W' h))⟩)
        have HG1 : Below (PB + 1) W1 W1 := Below.refl _ _
        unfold strV at h1 h2
        simp only at h1 h2
        have i1 : (k : Int) < (n : Int) := by omega
        have HZP := Lib.hid (show wc.heap.size < PB by omega)
        clear hp hr hbn hcb hPB hW1 hz1 HB1 hmap hD hB hZ hmb hlb htb
        obtain ⟨hv, hhv⟩ : ∃ hv, hasN (ps.take k) x = hv := ⟨_, rfl⟩
        have HLV := Lib.hid (show longK s ps (k + 1) = (lb || decide ((1024 : Int) < (x.length : Int))) by rw [longK_next HP.out, HLB.out]; congr 1; exact decide_eq_decide.2 (by simp only; omega))
        have HTV := Lib.hid (show dupK ps (k + 1) = (tb || hv) by rw [dupK_next HP.out, HTB.out, hhv])
        rw [hhv] at HHAS
        clear hhv
        have hway : (mb = true) ∨ (mb = false ∧ r ≠ 0) ∨ (mb = false ∧ r = 0 ∧ bn = false) ∨ (mb = false ∧ r = 0 ∧ bn = true) := by
          cases mb <;> cases bn <;> simp <;> omega
        have HMV := Lib.hid (show malK s ps (k + 1) = (mb || (decide (r ≠ 0) || (!bn || cb))) by rw [malK_next HP.out, HMB.out]; unfold badP; rw [HR.out, HBN.out, HCB.out])
        clear HP HMB HLB HTB HR HBN HCB
        rcases hway with rfl | ⟨rfl, hr0⟩ | ⟨rfl, rfl, rfl⟩ | ⟨rfl, rfl, rfl⟩
        · cases lb <;> cases tb
          all_goals
            go_wp2_with fail
            rw [HW1.out, HPB.out]
            refine (KR.out _ HG1).mono ?_
            rintro e1 w2 ⟨rfl, hg2⟩
            obtain ⟨c0, c1⟩ := KP.out _ hg2
            go_wp2_with (first
              | (go_at_call 60; refine (KI.out _ (by assumption)).mono ?_; rintro e1 w3 ⟨rfl, hg3⟩; obtain ⟨c2, c3⟩ := KP.out _ hg3)
              | (go_at_call 102; refine (KCA.out _ (by assumption)).mono ?_; rintro e1 w4 ⟨rfl, hg4⟩; obtain ⟨c4, c5⟩ := KP.out _ hg4)
              | (at_lookup; refine wpList_lookup_own_ok_int _ rfl _ _ 148 rfl 9 3 .i64 lawPlaces Tryd.underlying148 Tryd.underlying3 (zeroPlace _) wc.heap.size k D rfl (KM.out _ (by assumption)) _ _ rfl HKEY.out ?_; intro cc hat hwc; rw [HHAS.out]; clear hat hwc)
              | (at_mapUpdate; refine wpList_mapUpdate_own _ rfl _ _ _ 148 rfl 9 3 lawPlaces Tryd.underlying148 _ wc.heap.size k D rfl (KM.out _ (by assumption)) (by unfold maxLen; omega) _ _ _ rfl rfl HKEY.out _ [] (plainElem_int Tryd.underlying3 HWF.out) ?_; intro w6 hown6 hgrow6; have HM6 := Lib.hid hown6; have HB6 := Lib.hid (Below.grown (KG.out _ (by assumption)) hgrow6 (KG.out _ (by assumption)).size (fun j hj => by cases hj; exact HZ5.out)); have hsz6 := hgrow6.size; have hsz5 := KS.out _ (by assumption); clear hown6 hgrow6))
            exact ⟨FRel_mk (k + 1) _ (by rw [HN.out]; omega) HMV.out HLV.out HTV.out HM6.out (HD1.out _) HB6.out (by have := HZP.out; omega), by simp [intOf]; omega⟩
        · have t7 : (r != 0) = true := by simpa using hr0
          rw [decide_eq_true hr0] at HMV
          clear hr0
          cases lb <;> cases tb
          all_goals
            go_wp2_with fail
            rw [HW1.out, HPB.out]
            refine (KR.out _ HG1).mono ?_
            rintro e1 w2 ⟨rfl, hg2⟩
            obtain ⟨c0, c1⟩ := KP.out _ hg2
            go_wp2_with (first
              | (go_at_call 60; refine (KI.out _ (by assumption)).mono ?_; rintro e1 w3 ⟨rfl, hg3⟩; obtain ⟨c2, c3⟩ := KP.out _ hg3)
              | (go_at_call 102; refine (KCA.out _ (by assumption)).mono ?_; rintro e1 w4 ⟨rfl, hg4⟩; obtain ⟨c4, c5⟩ := KP.out _ hg4)
              | (at_lookup; refine wpList_lookup_own_ok_int _ rfl _ _ 148 rfl 9 3 .i64 lawPlaces Tryd.underlying148 Tryd.underlying3 (zeroPlace _) wc.heap.size k D rfl (KM.out _ (by assumption)) _ _ rfl HKEY.out ?_; intro cc hat hwc; rw [HHAS.out]; clear hat hwc)
              | (at_mapUpdate; refine wpList_mapUpdate_own _ rfl _ _ _ 148 rfl 9 3 lawPlaces Tryd.underlying148 _ wc.heap.size k D rfl (KM.out _ (by assumption)) (by unfold maxLen; omega) _ _ _ rfl rfl HKEY.out _ [] (plainElem_int Tryd.underlying3 HWF.out) ?_; intro w6 hown6 hgrow6; have HM6 := Lib.hid hown6; have HB6 := Lib.hid (Below.grown (KG.out _ (by assumption)) hgrow6 (KG.out _ (by assumption)).size (fun j hj => by cases hj; exact HZ5.out)); have hsz6 := hgrow6.size; have hsz5 := KS.out _ (by assumption); clear hown6 hgrow6))
            exact ⟨FRel_mk (k + 1) _ (by rw [HN.out]; omega) HMV.out HLV.out HTV.out HM6.out (HD1.out _) HB6.out (by have := HZP.out; omega), by simp [intOf]; omega⟩
        · cases lb <;> cases tb
          all_goals
            go_wp2_with fail
            rw [HW1.out, HPB.out]
            refine (KR.out _ HG1).mono ?_
            rintro e1 w2 ⟨rfl, hg2⟩
            obtain ⟨c0, c1⟩ := KP.out _ hg2
            go_wp2_with (first
              | (go_at_call 60; refine (KI.out _ (by assumption)).mono ?_; rintro e1 w3 ⟨rfl, hg3⟩; obtain ⟨c2, c3⟩ := KP.out _ hg3)
              | (go_at_call 102; refine (KCA.out _ (by assumption)).mono ?_; rintro e1 w4 ⟨rfl, hg4⟩; obtain ⟨c4, c5⟩ := KP.out _ hg4)
              | (at_lookup; refine wpList_lookup_own_ok_int _ rfl _ _ 148 rfl 9 3 .i64 lawPlaces Tryd.underlying148 Tryd.underlying3 (zeroPlace _) wc.heap.size k D rfl (KM.out _ (by assumption)) _ _ rfl HKEY.out ?_; intro cc hat hwc; rw [HHAS.out]; clear hat hwc)
              | (at_mapUpdate; refine wpList_mapUpdate_own _ rfl _ _ _ 148 rfl 9 3 lawPlaces Tryd.underlying148 _ wc.heap.size k D rfl (KM.out _ (by assumption)) (by unfold maxLen; omega) _ _ _ rfl rfl HKEY.out _ [] (plainElem_int Tryd.underlying3 HWF.out) ?_; intro w6 hown6 hgrow6; have HM6 := Lib.hid hown6; have HB6 := Lib.hid (Below.grown (KG.out _ (by assumption)) hgrow6 (KG.out _ (by assumption)).size (fun j hj => by cases hj; exact HZ5.out)); have hsz6 := hgrow6.size; have hsz5 := KS.out _ (by assumption); clear hown6 hgrow6))
            exact ⟨FRel_mk (k + 1) _ (by rw [HN.out]; omega) HMV.out HLV.out HTV.out HM6.out (HD1.out _) HB6.out (by have := HZP.out; omega), by simp [intOf]; omega⟩
        · cases lb <;> cases tb
          all_goals
            go_wp2_with fail
            rw [HW1.out, HPB.out]
            refine (KR.out _ HG1).mono ?_
            rintro e1 w2 ⟨rfl, hg2⟩
            obtain ⟨c0, c1⟩ := KP.out _ hg2
            go_wp2_with (first
              | (go_at_call 60; refine (KI.out _ (by assumption)).mono ?_; rintro e1 w3 ⟨rfl, hg3⟩; obtain ⟨c2, c3⟩ := KP.out _ hg3)
              | (go_at_call 102; refine (KCA.out _ (by assumption)).mono ?_; rintro e1 w4 ⟨rfl, hg4⟩; obtain ⟨c4, c5⟩ := KP.out _ hg4)
              | (at_lookup; refine wpList_lookup_own_ok_int _ rfl _ _ 148 rfl 9 3 .i64 lawPlaces Tryd.underlying148 Tryd.underlying3 (zeroPlace _) wc.heap.size k D rfl (KM.out _ (by assumption)) _ _ rfl HKEY.out ?_; intro cc hat hwc; rw [HHAS.out]; clear hat hwc)
              | (at_mapUpdate; refine wpList_mapUpdate_own _ rfl _ _ _ 148 rfl 9 3 lawPlaces Tryd.underlying148 _ wc.heap.size k D rfl (KM.out _ (by assumption)) (by unfold maxLen; omega) _ _ _ rfl rfl HKEY.out _ [] (plainElem_int Tryd.underlying3 HWF.out) ?_; intro w6 hown6 hgrow6; have HM6 := Lib.hid hown6; have HB6 := Lib.hid (Below.grown (KG.out _ (by assumption)) hgrow6 (KG.out _ (by assumption)).size (fun j hj => by cases hj; exact HZ5.out)); have hsz6 := hgrow6.size; have hsz5 := KS.out _ (by assumption); clear hown6 hgrow6))
            exact ⟨FRel_mk (k + 1) _ (by rw [HN.out]; omega) HMV.out HLV.out HTV.out HM6.out (HD1.out _) HB6.out (by have := HZP.out; omega), by simp [intOf]; omega⟩
      · obtain rfl : k = n := by omega
        have HVV := Lib.hid (show V = if mb then 7 else if lb then 11 else if tb then 12 else 0 by rw [← HV.out]; unfold faultT; rw [HN.out, HMB.out, HLB.out, HTB.out])
        clear HMB HLB HTB hmb hlb htb
        cases mb with
        | true =>
          go_wp2_with fail
          go_ret
          exact ⟨by rw [HVV.out]; rfl, HB.out⟩
        | false =>
          cases lb with
          | true =>
            go_wp2_with fail
            go_ret
            exact ⟨by rw [HVV.out]; rfl, HB.out⟩
          | false =>
            cases tb
            all_goals
              go_wp2_with fail
              go_ret
              exact ⟨by rw [HVV.out]; rfl, HB.out⟩
end Go.Proofs.YtdmfladcldkmeaaDoor
