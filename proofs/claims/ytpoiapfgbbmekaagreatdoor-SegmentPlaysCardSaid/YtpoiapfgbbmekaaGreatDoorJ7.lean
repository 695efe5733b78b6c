/-
  TEXTS JOINED: Shelf, DiskLaysMath, Open, Pick, OpenS, OpenB, IsB. Each one's own words stand at its head.
-/
import Derived.Shelf.Lays
import Derived.Shelf.LaysC
import Derived.Shelf.LaysM
import Derived.Shelf.Slices.In.SortNone
import Derived.Shelf.Sort.Plain
import Derived.Shelf.Strconv.AtoiAll
import Derived.Shelf.Strconv.Itoa3
import Derived.Shelf.Strings.Search2
import Derived.Test.YtpoiapfgbbmekaaGreatDoorProg
import Derived.Test.YtpoiapfgbbmekaaGreatDoorJ4
import Derived.Test.YtpoiapfgbbmekaaGreatDoorJ0
import Derived.Test.YtpoiapfgbbmekaaGreatDoorRows
/-
  THE LIBRARY's CONTRACTS THAT THE WALKS USE, at this program's own numbers: slices_Sort_string, slices_Sort_string_none, strconv_Itoa, strconv_Atoi_ok, laysC172, stringslite_Index_one. Each is one application of the kit's own theorem. Written by the kit's lay-shelf.mjs and lay-plain.mjs, pruned by tools/shelf.py.
-/
namespace Go.Proofs.YtpoiapfgbbmekaaGreatDoor
open Go.Proofs Go.Shelf
def Tryz.laysM171_ren : Go.Shelf.Ren := ⟨fun | 171 => 102 | 243 => 118 | 246 => 133 | 283 => 153 | 284 => 154 | 285 => 155 | 286 => 156 | 129 => 144 | 317 => 168 | 318 => 169 | 319 => 170 | 320 => 171 | 337 => 173 | 338 => 174 | n => n, fun | 3 => 3 | 9 => 9 | 2 => 2 | 4 => 4 | 171 => 187 | 0 => 0 | 53 => 31 | 37 => 36 | 5 => 5 | 173 => 189 | 212 => 205 | 51 => 127 | 20 => 20 | 213 => 206 | 46 => 30 | 232 => 211 | 233 => 62 | n => n, fun | 17 => 3 | 18 => 5 | 19 => 6 | n => n⟩
theorem Tryz.laysM171 : Go.Proofs.LaysM.n171 Tryz.prog Tryz.laysM171_ren := {
  mixed := by kernel_rfl
  f129 := Tryz.func144.trans (congrArg some (by kernel_rfl))
  f171 := Tryz.func102.trans (congrArg some (by kernel_rfl))
  f243 := Tryz.func118.trans (congrArg some (by kernel_rfl))
  f246 := Tryz.func133.trans (congrArg some (by kernel_rfl))
  f283 := Tryz.func153.trans (congrArg some (by kernel_rfl))
  f284 := Tryz.func154.trans (congrArg some (by kernel_rfl))
  f285 := Tryz.func155.trans (congrArg some (by kernel_rfl))
  f286 := Tryz.func156.trans (congrArg some (by kernel_rfl))
  f317 := Tryz.func168.trans (congrArg some (by kernel_rfl))
  f318 := Tryz.func169.trans (congrArg some (by kernel_rfl))
  f319 := Tryz.func170.trans (congrArg some (by kernel_rfl))
  f320 := Tryz.func171.trans (congrArg some (by kernel_rfl))
  f337 := Tryz.func173.trans (congrArg some (by kernel_rfl))
  f338 := Tryz.func174.trans (congrArg some (by kernel_rfl))
  t0 := Tryz.underlying0
  a0 := Tryz.isAgg0
  z0 := Tryz.sizeOf0
  v0 := Tryz.zeroValue0
  t2 := Tryz.underlying2
  a2 := Tryz.isAgg2
  z2 := Tryz.sizeOf2
  v2 := Tryz.zeroValue2
  t3 := Tryz.underlying3
  a3 := Tryz.isAgg3
  z3 := Tryz.sizeOf3
  v3 := Tryz.zeroValue3
  t4 := Tryz.underlying4
  a4 := Tryz.isAgg4
  z4 := Tryz.sizeOf4
  v4 := Tryz.zeroValue4
  t5 := Tryz.underlying5
  a5 := Tryz.isAgg5
  z5 := Tryz.sizeOf5
  v5 := Tryz.zeroValue5
  t9 := Tryz.underlying9
  a9 := Tryz.isAgg9
  z9 := Tryz.sizeOf9
  v9 := Tryz.zeroValue9
  t20 := Tryz.underlying20
  a20 := Tryz.isAgg20
  z20 := Tryz.sizeOf20
  v20 := Tryz.zeroValue20
  t37 := Tryz.underlying36
  a37 := Tryz.isAgg36
  z37 := Tryz.sizeOf36
  v37 := Tryz.zeroValue36
  t46 := Tryz.underlying30
  a46 := Tryz.isAgg30
  z46 := Tryz.sizeOf30
  v46 := Tryz.zeroValue30
  t51 := Tryz.underlying127
  a51 := Tryz.isAgg127
  z51 := Tryz.sizeOf127
  v51 := Tryz.zeroValue127
  t53 := Tryz.underlying31
  a53 := Tryz.isAgg31
  z53 := Tryz.sizeOf31
  v53 := Tryz.zeroValue31
  t171 := Tryz.underlying187
  a171 := Tryz.isAgg187
  z171 := Tryz.sizeOf187
  v171 := Tryz.zeroValue187
  t173 := Tryz.underlying189
  a173 := Tryz.isAgg189
  z173 := Tryz.sizeOf189
  v173 := Tryz.zeroValue189
  t212 := Tryz.underlying205
  a212 := Tryz.isAgg205
  z212 := Tryz.sizeOf205
  v212 := Tryz.zeroValue205
  t213 := Tryz.underlying206
  a213 := Tryz.isAgg206
  z213 := Tryz.sizeOf206
  t232 := Tryz.underlying211
  a232 := Tryz.isAgg211
  z232 := Tryz.sizeOf211
  v232 := Tryz.zeroValue211
  t233 := Tryz.underlying62
  a233 := Tryz.isAgg62
  z233 := Tryz.sizeOf62
  v233 := Tryz.zeroValue62
  g17 := by kernel_rfl
  g18 := by kernel_rfl
  g19 := by kernel_rfl
  i0 := by kernel_rfl
  i2 := by kernel_rfl
  i3 := by kernel_rfl
  i4 := by kernel_rfl
  i5 := by kernel_rfl
  i9 := by kernel_rfl
  i20 := by kernel_rfl
  i37 := by kernel_rfl
  i46 := by kernel_rfl
  i51 := by kernel_rfl
  i53 := by kernel_rfl
  i171 := by kernel_rfl
  i173 := by kernel_rfl
  i212 := by kernel_rfl
  i232 := by kernel_rfl
  i233 := by kernel_rfl
  m17 := by kernel_rfl
  m18 := by kernel_rfl
  m19 := by kernel_rfl }
open Go.RowKit Go.Sort Go.Lib in
/-- strconv.Itoa: "Itoa is equivalent to FormatInt(int64(i), 10).": i's DECIMAL NUMERAL ('Lib.itoa': a '-' where i is negative, then the digits), FOR EVERY int. The world behind the call: the world before it, new blocks behind the heap (the library's 'var a [24]byte'), draws. (LAID: no walk: one application.) -/
theorem Tryz.strconv_Itoa (n : Int) (h0 : -9223372036854775808 ≤ n) (h1 : n ≤ 9223372036854775807) (w : World) (htab : Lib.TabIs Tryz.prog w "internal/strconv.uint64pow10" .u64 Lib.pow10Tab) :
    Calls Tryz.prog 102 #[.int .i64 n] w fun e w' => e = .returned (.string ⟨(Lib.itoa n).toArray⟩) ∧ ∃ k os, w' = grow (w.drewN k) os := Any.strconv_Itoa Tryz.laysM171 n h0 h1 w htab
def Tryz.laysC172_ren : Go.Shelf.Ren := ⟨fun | 172 => 98 | 244 => 111 | 245 => 112 | 247 => 125 | 279 => 126 | 280 => 127 | 281 => 128 | 282 => 129 | 287 => 149 | 316 => 150 | 171 => 102 | 205 => 151 | 321 => 165 | 322 => 166 | 243 => 118 | 246 => 133 | 283 => 153 | 284 => 154 | 285 => 155 | 286 => 156 | 129 => 144 | 317 => 168 | 318 => 169 | 319 => 170 | 320 => 171 | 337 => 173 | 338 => 174 | n => n, fun | 9 => 9 | 3 => 3 | 75 => 138 | 76 => 139 | 4 => 4 | 5 => 5 | 167 => 159 | 37 => 36 | 0 => 0 | 85 => 160 | 2 => 2 | 168 => 162 | 53 => 31 | 175 => 181 | 46 => 30 | 210 => 185 | 127 => 200 | 145 => 203 | 143 => 201 | 21 => 21 | 171 => 187 | 173 => 189 | 212 => 205 | 51 => 127 | 20 => 20 | 213 => 206 | 232 => 211 | 233 => 62 | 80 => 212 | n => n, fun | 15 => 1 | 16 => 2 | 17 => 3 | 18 => 5 | 19 => 6 | n => n⟩
theorem Tryz.laysC172 : Go.Proofs.LaysC.n172 Tryz.prog Tryz.laysC172_ren := {
  mixed := by kernel_rfl
  f129 := Tryz.func144.trans (congrArg some (by kernel_rfl))
  f171 := Tryz.func102.trans (congrArg some (by kernel_rfl))
  f172 := Tryz.func98.trans (congrArg some (by kernel_rfl))
  f205 := Tryz.func151.trans (congrArg some (by kernel_rfl))
  f243 := Tryz.func118.trans (congrArg some (by kernel_rfl))
  f244 := Tryz.func111.trans (congrArg some (by kernel_rfl))
  f245 := Tryz.func112.trans (congrArg some (by kernel_rfl))
  f246 := Tryz.func133.trans (congrArg some (by kernel_rfl))
  f247 := Tryz.func125.trans (congrArg some (by kernel_rfl))
  f279 := Tryz.func126.trans (congrArg some (by kernel_rfl))
  f280 := Tryz.func127.trans (congrArg some (by kernel_rfl))
  f281 := Tryz.func128.trans (congrArg some (by kernel_rfl))
  f282 := Tryz.func129.trans (congrArg some (by kernel_rfl))
  f283 := Tryz.func153.trans (congrArg some (by kernel_rfl))
  f284 := Tryz.func154.trans (congrArg some (by kernel_rfl))
  f285 := Tryz.func155.trans (congrArg some (by kernel_rfl))
  f286 := Tryz.func156.trans (congrArg some (by kernel_rfl))
  f287 := Tryz.func149.trans (congrArg some (by kernel_rfl))
  f316 := Tryz.func150.trans (congrArg some (by kernel_rfl))
  f317 := Tryz.func168.trans (congrArg some (by kernel_rfl))
  f318 := Tryz.func169.trans (congrArg some (by kernel_rfl))
  f319 := Tryz.func170.trans (congrArg some (by kernel_rfl))
  f320 := Tryz.func171.trans (congrArg some (by kernel_rfl))
  f321 := Tryz.func165.trans (congrArg some (by kernel_rfl))
  f322 := Tryz.func166.trans (congrArg some (by kernel_rfl))
  f337 := Tryz.func173.trans (congrArg some (by kernel_rfl))
  f338 := Tryz.func174.trans (congrArg some (by kernel_rfl))
  t0 := Tryz.underlying0
  a0 := Tryz.isAgg0
  z0 := Tryz.sizeOf0
  v0 := Tryz.zeroValue0
  t2 := Tryz.underlying2
  a2 := Tryz.isAgg2
  z2 := Tryz.sizeOf2
  v2 := Tryz.zeroValue2
  t3 := Tryz.underlying3
  a3 := Tryz.isAgg3
  z3 := Tryz.sizeOf3
  v3 := Tryz.zeroValue3
  t4 := Tryz.underlying4
  a4 := Tryz.isAgg4
  z4 := Tryz.sizeOf4
  v4 := Tryz.zeroValue4
  t5 := Tryz.underlying5
  a5 := Tryz.isAgg5
  z5 := Tryz.sizeOf5
  v5 := Tryz.zeroValue5
  t9 := Tryz.underlying9
  a9 := Tryz.isAgg9
  z9 := Tryz.sizeOf9
  v9 := Tryz.zeroValue9
  t20 := Tryz.underlying20
  a20 := Tryz.isAgg20
  z20 := Tryz.sizeOf20
  v20 := Tryz.zeroValue20
  t21 := Tryz.underlying21
  a21 := Tryz.isAgg21
  z21 := Tryz.sizeOf21
  v21 := Tryz.zeroValue21
  t37 := Tryz.underlying36
  a37 := Tryz.isAgg36
  z37 := Tryz.sizeOf36
  v37 := Tryz.zeroValue36
  t46 := Tryz.underlying30
  a46 := Tryz.isAgg30
  z46 := Tryz.sizeOf30
  v46 := Tryz.zeroValue30
  t51 := Tryz.underlying127
  a51 := Tryz.isAgg127
  z51 := Tryz.sizeOf127
  v51 := Tryz.zeroValue127
  t53 := Tryz.underlying31
  a53 := Tryz.isAgg31
  z53 := Tryz.sizeOf31
  v53 := Tryz.zeroValue31
  t75 := Tryz.underlying138
  a75 := Tryz.isAgg138
  z75 := Tryz.sizeOf138
  v75 := Tryz.zeroValue138
  t76 := Tryz.underlying139
  a76 := Tryz.isAgg139
  z76 := Tryz.sizeOf139
  v76 := Tryz.zeroValue139
  t85 := Tryz.underlying160
  a85 := Tryz.isAgg160
  z85 := Tryz.sizeOf160
  v85 := Tryz.zeroValue160
  t127 := Tryz.underlying200
  a127 := Tryz.isAgg200
  z127 := Tryz.sizeOf200
  v127 := Tryz.zeroValue200
  t143 := Tryz.underlying201
  a143 := Tryz.isAgg201
  z143 := Tryz.sizeOf201
  v143 := Tryz.zeroValue201
  t145 := Tryz.underlying203
  a145 := Tryz.isAgg203
  z145 := Tryz.sizeOf203
  v145 := Tryz.zeroValue203
  t167 := Tryz.underlying159
  a167 := Tryz.isAgg159
  z167 := Tryz.sizeOf159
  v167 := Tryz.zeroValue159
  t168 := Tryz.underlying162
  a168 := Tryz.isAgg162
  z168 := Tryz.sizeOf162
  v168 := Tryz.zeroValue162
  t171 := Tryz.underlying187
  a171 := Tryz.isAgg187
  z171 := Tryz.sizeOf187
  v171 := Tryz.zeroValue187
  t173 := Tryz.underlying189
  a173 := Tryz.isAgg189
  z173 := Tryz.sizeOf189
  v173 := Tryz.zeroValue189
  t175 := Tryz.underlying181
  a175 := Tryz.isAgg181
  z175 := Tryz.sizeOf181
  v175 := Tryz.zeroValue181
  t210 := Tryz.underlying185
  a210 := Tryz.isAgg185
  z210 := Tryz.sizeOf185
  v210 := Tryz.zeroValue185
  t212 := Tryz.underlying205
  a212 := Tryz.isAgg205
  z212 := Tryz.sizeOf205
  v212 := Tryz.zeroValue205
  t213 := Tryz.underlying206
  a213 := Tryz.isAgg206
  z213 := Tryz.sizeOf206
  t232 := Tryz.underlying211
  a232 := Tryz.isAgg211
  z232 := Tryz.sizeOf211
  v232 := Tryz.zeroValue211
  t233 := Tryz.underlying62
  a233 := Tryz.isAgg62
  z233 := Tryz.sizeOf62
  v233 := Tryz.zeroValue62
  g15 := by kernel_rfl
  g16 := by kernel_rfl
  g17 := by kernel_rfl
  g18 := by kernel_rfl
  g19 := by kernel_rfl
  t80 := Tryz.underlying212
  a80 := Tryz.isAgg212
  z80 := Tryz.sizeOf212
  v80 := Tryz.zeroValue212
  i0 := by kernel_rfl
  i2 := by kernel_rfl
  i3 := by kernel_rfl
  i4 := by kernel_rfl
  i5 := by kernel_rfl
  i9 := by kernel_rfl
  i20 := by kernel_rfl
  i21 := by kernel_rfl
  i37 := by kernel_rfl
  i46 := by kernel_rfl
  i51 := by kernel_rfl
  i53 := by kernel_rfl
  i75 := by kernel_rfl
  i76 := by kernel_rfl
  i80 := by kernel_rfl
  i85 := by kernel_rfl
  i127 := by kernel_rfl
  i143 := by kernel_rfl
  i145 := by kernel_rfl
  i167 := by kernel_rfl
  i168 := by kernel_rfl
  i171 := by kernel_rfl
  i173 := by kernel_rfl
  i175 := by kernel_rfl
  i210 := by kernel_rfl
  i212 := by kernel_rfl
  i232 := by kernel_rfl
  i233 := by kernel_rfl
  m15 := by kernel_rfl
  m16 := by kernel_rfl
  m17 := by kernel_rfl
  m18 := by kernel_rfl
  m19 := by kernel_rfl
  c0 := by kernel_rfl
  c2 := by kernel_rfl
  c3 := by kernel_rfl
  c4 := by kernel_rfl
  c5 := by kernel_rfl
  c9 := by kernel_rfl
  c20 := by kernel_rfl
  c21 := by kernel_rfl
  c37 := by kernel_rfl
  c46 := by kernel_rfl
  c51 := by kernel_rfl
  c53 := by kernel_rfl
  c75 := by kernel_rfl
  c76 := by kernel_rfl
  c80 := by kernel_rfl
  c85 := by kernel_rfl
  c127 := by kernel_rfl
  c143 := by kernel_rfl
  c145 := by kernel_rfl
  c167 := by kernel_rfl
  c168 := by kernel_rfl
  c171 := by kernel_rfl
  c173 := by kernel_rfl
  c175 := by kernel_rfl
  c210 := by kernel_rfl
  c212 := by kernel_rfl
  c213 := by kernel_rfl
  c232 := by kernel_rfl
  c233 := by kernel_rfl }
open Go.RowKit in
/-- strconv.Atoi, AT EVERY STRING THAT SPELLS AN int ('Lib.atoiAll .. = .ok v'; of whatever length: leading zeros count): v, AND NO ERROR. The world: as it was, or with the one new row that '[]byte(..)' lays. (LAID: no walk: one application.) -/
theorem Tryz.strconv_Atoi_ok (s : ByteArray) (hmax : s.size ≤ 9223372036854775806) (v : Int) (h : Lib.atoiAll s.data.toList = .ok v) (w : World) :
    Calls Tryz.prog 98 #[.string s] w fun e w' => e = .returned (.tuple #[.int .i64 v, .nilIface]) ∧ (w' = w ∨ ∃ t, w' = Lib.bytesWorld w 5 t) := Any.strconv_Atoi_ok Tryz.laysC172 s hmax v h w
def Tryz.lays219_ren : Go.Shelf.Ren := ⟨fun | 219 => 124 | 217 => 145 | 225 => 146 | 224 => 147 | 267 => 148 | 266 => 163 | 314 => 164 | n => n, fun | 9 => 9 | 3 => 3 | 4 => 4 | 5 => 5 | 46 => 30 | 146 => 197 | 51 => 127 | n => n, fun | 1 => 0 | n => n⟩
theorem Tryz.lays219 : Go.Proofs.Lays.n219 Tryz.prog Tryz.lays219_ren := {
  mixed := by kernel_rfl
  f217 := Tryz.func145.trans (congrArg some (by kernel_rfl))
  f219 := Tryz.func124.trans (congrArg some (by kernel_rfl))
  f224 := Tryz.func147.trans (congrArg some (by kernel_rfl))
  f225 := Tryz.func146.trans (congrArg some (by kernel_rfl))
  f266 := Tryz.func163.trans (congrArg some (by kernel_rfl))
  f267 := Tryz.func148.trans (congrArg some (by kernel_rfl))
  f314 := Tryz.func164.trans (congrArg some (by kernel_rfl))
  t3 := Tryz.underlying3
  a3 := Tryz.isAgg3
  z3 := Tryz.sizeOf3
  v3 := Tryz.zeroValue3
  t4 := Tryz.underlying4
  a4 := Tryz.isAgg4
  z4 := Tryz.sizeOf4
  v4 := Tryz.zeroValue4
  t5 := Tryz.underlying5
  a5 := Tryz.isAgg5
  z5 := Tryz.sizeOf5
  v5 := Tryz.zeroValue5
  t9 := Tryz.underlying9
  a9 := Tryz.isAgg9
  z9 := Tryz.sizeOf9
  v9 := Tryz.zeroValue9
  t46 := Tryz.underlying30
  a46 := Tryz.isAgg30
  z46 := Tryz.sizeOf30
  v46 := Tryz.zeroValue30
  t51 := Tryz.underlying127
  a51 := Tryz.isAgg127
  z51 := Tryz.sizeOf127
  v51 := Tryz.zeroValue127
  t146 := Tryz.underlying197
  a146 := Tryz.isAgg197
  z146 := Tryz.sizeOf197
  v146 := Tryz.zeroValue197
  g1 := by kernel_rfl }
open Go.RowKit Go.Lib in
/-- internal/stringslite.Index (what strings.Index calls) AT A substr OF ONE BYTE c: IT RETURNS 'Lib.indexByte s c'; the world is as it was. (LAID: no walk: one application.) -/
theorem Tryz.stringslite_Index_one (s : ByteArray) (c : UInt8) (w : World) :
    Calls Tryz.prog 124 #[.string s, .string ⟨#[c]⟩] w fun e w' => e = .returned (.int .i64 (Lib.indexByte s.data.toList c)) ∧ w' = w := Any.stringslite_Index_one Tryz.lays219 s c w
def Tryz.lays190_ren : Go.Shelf.Ren := ⟨fun | 190 => 107 | 125 => 123 | 258 => 122 | 128 => 143 | 129 => 144 | 302 => 134 | 303 => 135 | 304 => 136 | 305 => 137 | 306 => 138 | 307 => 139 | 308 => 140 | 309 => 141 | 310 => 142 | 333 => 157 | 329 => 158 | 330 => 159 | 334 => 160 | 335 => 161 | 336 => 162 | 344 => 172 | n => n, fun | 31 => 110 | 9 => 9 | 3 => 3 | 46 => 30 | 0 => 0 | 51 => 127 | 53 => 31 | 4 => 4 | 183 => 170 | 182 => 169 | 131 => 175 | 5 => 5 | 218 => 191 | 222 => 195 | 228 => 208 | 229 => 113 | n => n, fun | n => n⟩
theorem Tryz.lays190 : Go.Proofs.Lays.n190 Tryz.prog Tryz.lays190_ren := {
  mixed := by kernel_rfl
  f125 := Tryz.func123.trans (congrArg some (by kernel_rfl))
  f128 := Tryz.func143.trans (congrArg some (by kernel_rfl))
  f129 := Tryz.func144.trans (congrArg some (by kernel_rfl))
  f190 := Tryz.func107.trans (congrArg some (by kernel_rfl))
  f258 := Tryz.func122.trans (congrArg some (by kernel_rfl))
  f302 := Tryz.func134.trans (congrArg some (by kernel_rfl))
  f303 := Tryz.func135.trans (congrArg some (by kernel_rfl))
  f304 := Tryz.func136.trans (congrArg some (by kernel_rfl))
  f305 := Tryz.func137.trans (congrArg some (by kernel_rfl))
  f306 := Tryz.func138.trans (congrArg some (by kernel_rfl))
  f307 := Tryz.func139.trans (congrArg some (by kernel_rfl))
  f308 := Tryz.func140.trans (congrArg some (by kernel_rfl))
  f309 := Tryz.func141.trans (congrArg some (by kernel_rfl))
  f310 := Tryz.func142.trans (congrArg some (by kernel_rfl))
  f329 := Tryz.func158.trans (congrArg some (by kernel_rfl))
  f330 := Tryz.func159.trans (congrArg some (by kernel_rfl))
  f333 := Tryz.func157.trans (congrArg some (by kernel_rfl))
  f334 := Tryz.func160.trans (congrArg some (by kernel_rfl))
  f335 := Tryz.func161.trans (congrArg some (by kernel_rfl))
  f336 := Tryz.func162.trans (congrArg some (by kernel_rfl))
  f344 := Tryz.func172.trans (congrArg some (by kernel_rfl))
  t0 := Tryz.underlying0
  a0 := Tryz.isAgg0
  z0 := Tryz.sizeOf0
  v0 := Tryz.zeroValue0
  t3 := Tryz.underlying3
  a3 := Tryz.isAgg3
  z3 := Tryz.sizeOf3
  v3 := Tryz.zeroValue3
  t4 := Tryz.underlying4
  a4 := Tryz.isAgg4
  z4 := Tryz.sizeOf4
  v4 := Tryz.zeroValue4
  t5 := Tryz.underlying5
  a5 := Tryz.isAgg5
  z5 := Tryz.sizeOf5
  v5 := Tryz.zeroValue5
  t9 := Tryz.underlying9
  a9 := Tryz.isAgg9
  z9 := Tryz.sizeOf9
  v9 := Tryz.zeroValue9
  t31 := Tryz.underlying110
  a31 := Tryz.isAgg110
  z31 := Tryz.sizeOf110
  v31 := Tryz.zeroValue110
  t46 := Tryz.underlying30
  a46 := Tryz.isAgg30
  z46 := Tryz.sizeOf30
  v46 := Tryz.zeroValue30
  t51 := Tryz.underlying127
  a51 := Tryz.isAgg127
  z51 := Tryz.sizeOf127
  v51 := Tryz.zeroValue127
  t53 := Tryz.underlying31
  a53 := Tryz.isAgg31
  z53 := Tryz.sizeOf31
  v53 := Tryz.zeroValue31
  t131 := Tryz.underlying175
  a131 := Tryz.isAgg175
  z131 := Tryz.sizeOf175
  v131 := Tryz.zeroValue175
  t182 := Tryz.underlying169
  a182 := Tryz.isAgg169
  z182 := Tryz.sizeOf169
  v182 := Tryz.zeroValue169
  t183 := Tryz.underlying170
  a183 := Tryz.isAgg170
  z183 := Tryz.sizeOf170
  v183 := Tryz.zeroValue170
  t218 := Tryz.underlying191
  a218 := Tryz.isAgg191
  z218 := Tryz.sizeOf191
  v218 := Tryz.zeroValue191
  t222 := Tryz.underlying195
  a222 := Tryz.isAgg195
  z222 := Tryz.sizeOf195
  v222 := Tryz.zeroValue195
  t228 := Tryz.underlying208
  a228 := Tryz.isAgg208
  z228 := Tryz.sizeOf208
  v228 := Tryz.zeroValue208
  t229 := Tryz.underlying113
  a229 := Tryz.isAgg113
  z229 := Tryz.sizeOf113
  v229 := Tryz.zeroValue113 }
open Go.Sort Go.RowKit in
theorem Tryz.slices_Sort_string (blk off cap : Nat) (ss : List (List UInt8)) (w : World) (hH : Holds encStr w blk off ss.toArray) (hblk : blk < w.heap.size) (hsz : ss.length < 4611686018427387904) :
    Calls Tryz.prog 107 #[.slice (some ⟨blk, off, none⟩) ss.length cap] w fun e w' =>
      e = .returned (.tuple #[]) ∧ ∃ n os, w' = grow (putRow encStr (Sort.ahead w n) blk off (ss.mergeSort fun x y => decide (x ≤ y)).toArray) os := Any.slices_Sort_string Tryz.lays190 blk off cap ss w hH hblk hsz
open Go.RowKit Go.Sort in
/-- .. and plain. (LAID: no walk: one application.) -/
theorem Tryz.slices_Sort_string_none (p : Option Addr) (cap : Nat) (w : World) :
    Calls Tryz.prog 107 #[.slice p 0 cap] w fun e w' => e = .returned (.tuple #[]) ∧ w' = w := Any.slices_Sort_string_none Tryz.lays190 p cap w
end Go.Proofs.YtpoiapfgbbmekaaGreatDoor
namespace Go.Proofs.YtpoiapfgbbmekaaGreatDoor
open Go.RowKit
structure Still (d : AD) : Prop where
  down : d.down = false
  told : d.told = false
  after : d.after = 0
  file : ∀ f ∈ d.L, f.ws = List.replicate f.n false ∧ f.seen = f.las
theorem crS_still (kb : List Int) (torn cut : Int) (f : AF) (i0 : Nat) (hw : f.ws = List.replicate f.n false) : ∀ j, crS kb torn cut f i0 j = (f.las.take (j * 64), i0)
  | 0 => by simp [crS]
  | j + 1 => by
    have hg : f.ws.getD j false = false := by rw [hw]; simp [List.getD, List.getElem?_replicate]; split <;> rfl
    simp only [crS, crS_still kb torn cut f i0 hw j, hg]
    have e : f.las.take ((j + 1) * 64) = f.las.take (j * 64) ++ chunk f.las j := by
      unfold chunk; rw [show (j + 1) * 64 = j * 64 + 64 from by omega, List.take_add]
    simp [secC, e]
theorem crL_still (kb : List Int) (torn cut : Int) (L : List AF) (hL : ∀ f ∈ L, f.ws = List.replicate f.n false ∧ f.seen = f.las ∧ f.las.length = f.n * 64) : ∀ k, k ≤ L.length → crL kb torn cut L k = (L.take k, 0)
  | 0, _ => by simp [crL]
  | k + 1, h => by
    obtain ⟨f, hf⟩ := row_some (L := L) (i := k) (by omega)
    obtain ⟨h1, h2, h3⟩ := hL f (List.mem_of_getElem? hf)
    rw [crL_step kb torn cut L k f hf, crL_still kb torn cut L hL k (by omega)]
    have e : crFile kb torn cut f 0 = f := by
      unfold crFile
      rw [crS_still kb torn cut f 0 h1, List.take_of_length_le (by omega)]
      obtain ⟨nm, n, las, seen, ws⟩ := f
      simp only at h1 h2 ⊢
      rw [h1, h2]
    obtain ⟨hk, rfl⟩ := List.getElem?_eq_some_iff.1 hf
    rw [List.take_succ_eq_append_getElem hk]
    simp only [crS_still kb torn cut _ 0 h1, e]
theorem Still.crash {d : AD} (s : Still d) (h : Good d) (kb : List Int) (torn cut : Int) : d.crashR kb torn cut = d := by
  have hL := crL_still kb torn cut d.L (fun f hf => ⟨(s.file f hf).1, (s.file f hf).2, (h.file f hf).las⟩) d.L.length (Nat.le_refl _)
  unfold AD.crashR
  rw [hL, List.take_length]
  have h1 := s.down; have h2 := s.told; have h3 := s.after
  obtain ⟨L, cap, ops, down, told, after⟩ := d
  simp only at h1 h2 h3
  subst h1; subst h2; subst h3
  rfl
theorem Still.new (c : Int) : Still (AD.newD c) := ⟨rfl, rfl, rfl, fun f hf => by simp [AD.newD] at hf⟩
theorem Still.put {d : AD} (s : Still d) {f : AF} (hf : f.ws = List.replicate f.n false ∧ f.seen = f.las) : Still (d.withF f) :=
  ⟨s.down, s.told, s.after, fun g hg => by
    rcases mem_ins.1 hg with rfl | hg
    · exact hf
    · exact s.file g (mem_without.1 hg).1⟩
theorem Still.op {d : AD} (s : Still d) : Still d.opd := by
  unfold AD.opd
  rw [if_neg (by rw [s.told]; simp)]
  exact ⟨s.down, s.told, by show (if d.told = true then wrap64 (d.after - 1) else d.after) = 0; rw [s.told]; simpa using s.after, s.file⟩
end Go.Proofs.YtpoiapfgbbmekaaGreatDoor
namespace Go.Proofs.YtpoiapfgbbmekaaGreatDoor
open Go.RowKit Go.ChangeShapes Go.WideShapes
section
variable {H : Type} {enc : TypeId × Value → H} {P : Program} {W : World} {t e : TypeId} {k : IntKind}
theorem rdc_string {cs : List Value} {d : DataW H} (ht : P.underlying t = some .string) (h : RdC enc P W t cs d) : ∃ s : ByteArray, cs = [.string s] ∧ d = .lit (.string s.data.toList) ∧ s.size ≤ maxLen := by
  obtain ⟨f, p, hf⟩ := h
  obtain ⟨s, h1, h2, h3⟩ := DataW.trod_string ht hf
  exact ⟨s, h1, congrArg Prod.fst h2, h3⟩
theorem rdc_struct {cs : List Value} {d : DataW H} {fs : Array Field} (ht : P.underlying t = some (.struct fs)) (h : RdC enc P W t cs d) :
    ∃ ds : List (DataW H), d = .agg ds ∧ ds.length = fs.size ∧ cs.length = P.cellsOf t ∧ ∀ (i : Nat) (f : Field) (x : DataW H), fs[i]? = some f → ds[i]? = some x → RdC enc P W f.type ((cs.drop f.offset).take (P.cellsOf f.type)) x := by
  obtain ⟨f, p, hf⟩ := h
  obtain ⟨xs, n, _, hx, hl, hn, hel⟩ := DataW.trod_struct ht hf
  refine ⟨xs.map (·.1), congrArg Prod.fst hx, by simp [hn], hl, fun i f x hi hx => ?_⟩
  have h1 := hel i f hi
  rw [List.getElem?_map] at hx
  simp only [Option.map_eq_some_iff] at hx
  obtain ⟨y, hy, rfl⟩ := hx
  exact ⟨n, y.2, by rw [h1, hy]⟩
theorem rdc_bytes_array {n : Nat} {cs : List Value} {d : DataW H} (ht : P.underlying t = some (.array n e)) (he : P.underlying e = some (.int .u8)) (hc : P.cellsOf e = 1) (hn : P.cellsOf t = n) (h : RdC enc P W t cs d) :
    ∃ zs : List Int, cs = il .u8 zs ∧ zs.length = n ∧ Bytes zs := by
  obtain ⟨f, p, hf⟩ := h
  obtain ⟨xs, m, _, hx, hl, hxl, hel⟩ := DataW.trod_array ht hf
  rw [hn] at hl
  have h1 : ∀ i (hi : i < cs.length), ∃ x, cs[i] = .int .u8 x ∧ (Lit.int .u8 x).wf = true := fun i hi => by
    have h2 := hel i (by omega)
    rw [hc, Nat.mul_one, List.take_one, List.head?_drop, List.getElem?_eq_getElem hi, List.getElem?_eq_getElem (by omega)] at h2
    obtain ⟨x, hx, _, hw⟩ := DataW.trod_int he h2
    exact ⟨x, by simpa using hx, hw⟩
  refine ⟨cs.map intOf, ?_, by simpa using hl, bytes_of_mem fun x hx => ?_⟩
  · refine List.ext_getElem (by simp [il]) fun i h2 h3 => ?_
    obtain ⟨x, hx, _⟩ := h1 i h2
    simp [il, hx, intOf]
  · obtain ⟨c, hc1, rfl⟩ := List.mem_map.1 hx
    obtain ⟨i, hi, rfl⟩ := List.getElem_of_mem hc1
    obtain ⟨y, hy, hw⟩ := h1 i hi
    rw [hy]
    simp [Lit.wf, IntKind.min, IntKind.max, IntKind.signed, IntKind.bits] at hw
    simp only [intOf]; omega
theorem rdc_slice {k : Nat} {cs : List Value} {d : DataW H} (ht : P.underlying t = some (.slice e)) (hk : P.cellsOf e = k) (hk0 : 0 < k) (h : RdC enc P W t cs d) :
    ∃ (v : Value) (n : Nat) (es : List (List Value)) (ds : List (DataW H)), cs = [v] ∧ CS k W v n es.flatten ∧ es.length = n ∧ ds.length = n ∧ (∀ c ∈ es, c.length = k) ∧
      (∀ (i : Nat) (c : List Value) (x : DataW H), es[i]? = some c → ds[i]? = some x → RdC enc P W e c x) ∧ (n = 0 ∨ ∃ rest, d = .slice ds rest) := by
  obtain ⟨f, p, hf⟩ := h
  rcases DataW.trod_slice ht hf with ⟨rfl, _⟩ | ⟨a, len, cap, elems, rest, m, _, rfl, hx, _, hl, hm, hlen, hel, _, _⟩
  · exact ⟨_, 0, [], [], rfl, CS.nil k W, rfl, rfl, fun c hc => by simp at hc, fun i c x hc => by simp at hc, .inl rfl⟩
  · rw [hk] at hel
    have hall : ∀ i, i < len → ∃ c y, elems[i]? = some y ∧ c.length = k ∧ (∀ j, j < k → W.cell? ((a.add (i * k)).add j) = c[j]?) ∧ DataW.trod enc P W 0 (fun _ => true) true m e c = some y := fun i hi => by
      have h1 := hel i hi
      rw [List.getElem?_eq_getElem (by omega)] at h1
      obtain ⟨c, h2, h3⟩ := Option.bind_eq_some_iff.1 h1
      obtain ⟨_, h4, h5⟩ := World.cells?_some h2
      exact ⟨c, _, List.getElem?_eq_getElem (by omega), h4, h5, h3⟩
    let ce : Nat → List Value := fun i => if h : i < len then (hall i h).choose else []
    have hce : ∀ i (h : i < len), ∃ y, elems[i]? = some y ∧ (ce i).length = k ∧ (∀ j, j < k → W.cell? ((a.add (i * k)).add j) = (ce i)[j]?) ∧ DataW.trod enc P W 0 (fun _ => true) true m e (ce i) = some y := fun i h => by
      show ∃ y, _
      simp only [ce, dif_pos h]
      exact (hall i h).choose_spec
    have hcl : ∀ c ∈ (List.range len).map ce, c.length = k := by
      intro c hc
      obtain ⟨i, hi, rfl⟩ := List.mem_map.1 hc
      obtain ⟨y, _, h1, _⟩ := hce i (by simpa using hi)
      exact h1
    refine ⟨_, len, (List.range len).map ce, elems.map (·.1), rfl, ⟨some a, cap, rfl, ?_, hl, by unfold maxLen at hm; omega, fun h => by simp at h, fun h0 => ?_⟩, by simp, by simp [hlen], hcl, ?_, .inr ⟨_, congrArg Prod.fst hx⟩⟩
    · rw [flat_length k _ hcl]; simp
    · obtain ⟨y, _, h1, h2, _⟩ := hce 0 h0
      have h3 := h2 0 hk0
      rw [List.getElem?_eq_getElem (by omega)] at h3
      have hs := World.cell?_spot h3
      obtain ⟨b, off, spot⟩ := a
      have hspot : spot = none := by simpa [Addr.add] using hs
      subst hspot
      refine ⟨b, off, rfl, fun j hj => ?_⟩
      have hjk : j / k < len := (Nat.div_lt_iff_lt_mul hk0).2 hj
      obtain ⟨y, _, h4, h5, _⟩ := hce (j / k) hjk
      have h6 := h5 (j % k) (Nat.mod_lt _ hk0)
      have h7 := flat_get k ((List.range len).map ce) (j / k) (j % k) hcl (Nat.mod_lt _ hk0) (ce (j / k)) (by simp [hjk])
      rw [Nat.div_add_mod' j k] at h7
      rw [h7, ← h6, Go.WideShapes.add_plain, Go.WideShapes.add_plain, Nat.add_assoc, Nat.div_add_mod' j k]
    · intro i c x hc hx
      have hi : i < len := by have := (List.getElem?_eq_some_iff.1 hc).1; simpa using this
      obtain ⟨y, h1, _, _, h2⟩ := hce i hi
      have e1 : c = ce i := by
        rw [List.getElem?_map, List.getElem?_range hi] at hc
        exact (Option.some.inj hc).symm
      rw [List.getElem?_map, h1] at hx
      have e2 : y.1 = x := Option.some.inj hx
      subst e1; subst e2
      exact ⟨m, y.2, h2⟩
def Rch (P : Program) (t : TypeId) (d : DataW H) : Prop := ∀ n ∈ d.weights P t, n ≤ reachBytes
theorem rch_arg {ts : List TypeId} {ds : List (DataW H)} (h : (DataW.weightsEach P ts ds).all (· ≤ reachBytes) = true) (j : Nat) (d : DataW H) (htj : ts[j]? = some t) (hdj : ds[j]? = some d) : Rch P t d := fun n hn =>
  of_decide_eq_true (List.all_eq_true.1 h n (DataW.weights_mem_each htj hdj n hn))
theorem weightsAll_mem : ∀ {ds : List (DataW H)} {x : DataW H}, x ∈ ds → ∀ n ∈ x.weights P e, n ∈ DataW.weightsAll P e ds
  | d :: r, x, hx, n, hn => by
    simp only [DataW.weightsAll, List.mem_append]
    rcases List.mem_cons.1 hx with rfl | hx
    · exact .inl hn
    · exact .inr (weightsAll_mem hx n hn)
theorem Rch.elem {ds rest : List (DataW H)} (ht : P.underlying t = some (.slice e)) (h : Rch P t (.slice ds rest)) {x : DataW H} (hx : x ∈ ds) : Rch P e x := fun n hn =>
  h n (by simp only [DataW.weights, ht]; exact List.mem_cons_of_mem _ (List.mem_append_left _ (weightsAll_mem hx n hn)))
theorem Rch.field {ds : List (DataW H)} {fs : Array Field} (ht : P.underlying t = some (.struct fs)) (h : Rch P t (.agg ds)) {i : Nat} {f : Field} {x : DataW H} (hf : fs[i]? = some f) (hx : ds[i]? = some x) : Rch P f.type x := fun n hn =>
  h n (by simp only [DataW.weights, ht]; exact DataW.weights_mem_each (j := i) (by simp [hf]) hx n hn)
theorem Rch.text {s : ByteArray} (h : Rch P t (.lit (.string s.data.toList) : DataW H)) : s.size ≤ 281474976710656 := by
  have h1 := h s.data.toList.length (by simp [DataW.weights])
  have e1 : s.size = s.data.size := rfl
  have e2 : s.data.toList.length = s.data.size := Array.length_toList
  unfold reachBytes at h1
  omega
end
end Go.Proofs.YtpoiapfgbbmekaaGreatDoor
namespace Go.Proofs.YtpoiapfgbbmekaaGreatDoor
theorem pick {α β : Type} {R : α → β → Prop} : ∀ es : List α, (∀ e ∈ es, ∃ a, R e a) → ∃ l : List β, l.length = es.length ∧ ∀ (i : Nat) (e : α) (a : β), es[i]? = some e → l[i]? = some a → R e a
  | [], _ => ⟨[], rfl, fun i e a he => by simp at he⟩
  | e :: es, h => by
    obtain ⟨a, ha⟩ := h e (List.mem_cons_self ..)
    obtain ⟨l, hl, hr⟩ := pick es fun x hx => h x (List.mem_cons_of_mem _ hx)
    refine ⟨a :: l, by simp [hl], fun i x y hx hy => ?_⟩
    cases i with
    | zero => simp at hx hy; subst hx; subst hy; exact ha
    | succ i => exact hr i x y (by simpa using hx) (by simpa using hy)
end Go.Proofs.YtpoiapfgbbmekaaGreatDoor
namespace Go.Proofs.YtpoiapfgbbmekaaGreatDoor
open Go.RowKit Go.ChangeShapes Go.WideShapes
section
variable {H : Type} {enc : TypeId × Value → H} {W : World}
theorem i63_wf {n : Int} (h : (Lit.int .i64 n).wf = true) : I63 n := by
  unfold I63; simp [Lit.wf, IntKind.min, IntKind.max, IntKind.signed, IntKind.bits] at h; omega
theorem u64_wf {n : Int} (h : (Lit.int .u64 n).wf = true) : 0 ≤ n ∧ n ≤ 18446744073709551615 := by
  simp [Lit.wf, IntKind.min, IntKind.max, IntKind.signed, IntKind.bits] at h; omega
theorem c_int : Tryz.prog.cellsOf 3 = 1 := by kernel_rfl
theorem c_bytes : Tryz.prog.cellsOf 36 = 1 := by kernel_rfl
theorem c_secs : Tryz.prog.cellsOf 35 = 1 := by kernel_rfl
theorem c_sec : Tryz.prog.cellsOf 63 = 64 := by kernel_rfl
theorem c_u8 : Tryz.prog.cellsOf 5 = 1 := by kernel_rfl
set_option maxRecDepth 8000 in
theorem rdc_bytes {cs : List Value} {d : DataW H} (h : RdC enc Tryz.prog W 36 cs d) : ∃ v len zs, cs = [v] ∧ RI .u8 W v len zs ∧ Bytes zs := by
  obtain ⟨a, len, cap, zs, h1, h2, _⟩ := rdc_ints Tryz.underlying36 Tryz.underlying5 c_u8 h
  exact ⟨_, len, _, h1, IRow.ri h2, IRow.bytes h2⟩
theorem il_flatten : ∀ zss : List (List Int), (zss.map (il .u8)).flatten = il .u8 zss.flatten
  | [] => rfl
  | z :: zss => by rw [List.map_cons, List.flatten_cons, List.flatten_cons, il_flatten zss, il_append]
theorem FS.cs {v : Value} {n : Nat} {fs : List Int} (h : CS 64 W v n (il .u8 fs)) : FS W v n fs := by
  obtain ⟨a, cap, rfl, h1, h2, h3, h4, hc⟩ := h
  rw [il_length] at h1
  refine ⟨a, cap, rfl, h1, h2, h3, h4, fun h0 => ?_⟩
  obtain ⟨b, off, rfl, hcell⟩ := hc h0
  exact ⟨b, off, rfl, fun j hj => by rw [hcell j hj, il_get _ _ _ (by omega)]⟩
set_option maxRecDepth 8000 in
theorem rdc_secs {cs : List Value} {d : DataW H} (h : RdC enc Tryz.prog W 35 cs d) : ∃ v n fs, cs = [v] ∧ FS W v n fs ∧ Bytes fs := by
  obtain ⟨v, n, es, ds, e1, hcs, hn, hd, _, hel, _⟩ := rdc_slice Tryz.underlying35 c_sec (by omega) h
  obtain ⟨l, hl, hR⟩ := pick (R := fun e z => e = il .u8 z ∧ Bytes z) es fun e he => by
    obtain ⟨i, hi, rfl⟩ := List.getElem_of_mem he
    obtain ⟨zs, h1, _, h2⟩ := rdc_bytes_array Tryz.underlying63 Tryz.underlying5 c_u8 c_sec (hel i _ _ (List.getElem?_eq_getElem hi) (List.getElem?_eq_getElem (show i < ds.length by omega)))
    exact ⟨zs, h1, h2⟩
  have he : es = l.map (il .u8) := List.ext_getElem (by simp [hl]) fun i h1 h2 => by
    rw [List.getElem_map]
    exact (hR i es[i] _ (List.getElem?_eq_getElem h1) (List.getElem?_eq_getElem (by omega))).1
  subst he
  rw [il_flatten] at hcs
  refine ⟨v, n, l.flatten, e1, FS.cs hcs, bytes_of_mem fun x hx => ?_⟩
  obtain ⟨z, hz, hxz⟩ := List.mem_flatten.1 hx
  obtain ⟨i, hi, rfl⟩ := List.getElem_of_mem hz
  have hb := (hR i _ _ (List.getElem?_eq_getElem (show i < (l.map (il .u8)).length by simpa using hi)) (List.getElem?_eq_getElem hi)).2
  obtain ⟨j, hj, rfl⟩ := List.getElem_of_mem hxz
  have := hb j
  simpa [List.getD, hj] using this
end
end Go.Proofs.YtpoiapfgbbmekaaGreatDoor
namespace Go.Proofs.YtpoiapfgbbmekaaGreatDoor
open Go.RowKit Go.ChangeShapes Go.WideShapes
section
variable {H : Type} {enc : TypeId × Value → H} {W : World}
theorem c_crash : Tryz.prog.cellsOf 38 = 3 := by kernel_rfl
set_option maxRecDepth 8000 in
theorem rdc_crash {cs : List Value} {d : DataW H} (h : RdC enc Tryz.prog W 38 cs d) :
    ∃ vk klen kb torn cut, cs = [vk, .int .i64 torn, .int .i64 cut] ∧ RI .u8 W vk klen kb ∧ Bytes kb ∧ I63 torn ∧ I63 cut := by
  obtain ⟨ds, rfl, hn, hl, hf⟩ := rdc_struct Tryz.underlying38 h
  rw [c_crash] at hl
  have hn3 : ds.length = 3 := hn
  match cs, hl, ds, hn3, hf with
  | [c0, c1, c2], _, [x0, x1, x2], _, hf =>
    have h0 : RdC enc Tryz.prog W 36 (([c0, c1, c2].drop 0).take (Tryz.prog.cellsOf 36)) x0 := hf 0 _ _ rfl rfl
    rw [c_bytes] at h0
    have h1 : RdC enc Tryz.prog W 3 (([c0, c1, c2].drop 1).take (Tryz.prog.cellsOf 3)) x1 := hf 1 _ _ rfl rfl
    rw [c_int] at h1
    have h2 : RdC enc Tryz.prog W 3 (([c0, c1, c2].drop 2).take (Tryz.prog.cellsOf 3)) x2 := hf 2 _ _ rfl rfl
    rw [c_int] at h2
    obtain ⟨vk, klen, kb, e0, r0, b0⟩ := rdc_bytes (cs := [c0]) h0
    obtain ⟨torn, e1, _, w1⟩ := rdc_int (cs := [c1]) Tryz.underlying3 h1
    obtain ⟨cut, e2, _, w2⟩ := rdc_int (cs := [c2]) Tryz.underlying3 h2
    simp only [List.cons.injEq, and_true] at e0 e1 e2
    subst e0; subst e1; subst e2
    exact ⟨_, klen, kb, torn, cut, rfl, r0, b0, i63_wf w1, i63_wf w2⟩
end
end Go.Proofs.YtpoiapfgbbmekaaGreatDoor
namespace Go.Proofs.YtpoiapfgbbmekaaGreatDoor
def isB (l : List Int) : Prop := ∀ x ∈ l, 0 ≤ x ∧ x ≤ 255
theorem isB.drop {l : List Int} (h : isB l) (k : Nat) : isB (l.drop k) := fun x hx => h x (List.mem_of_mem_drop hx)
theorem isB.take {l : List Int} (h : isB l) (k : Nat) : isB (l.take k) := fun x hx => h x (List.mem_of_mem_take hx)
theorem isB.append {a b : List Int} (ha : isB a) (hb : isB b) : isB (a ++ b) := fun x hx => (List.mem_append.1 hx).elim (ha x) (hb x)
theorem isB.nil : isB [] := fun x hx => by simp at hx
end Go.Proofs.YtpoiapfgbbmekaaGreatDoor
