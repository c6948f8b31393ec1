/-
  The library's contracts that this seat's walks use, laid at its translation: each says what the library's function returns, under the conditions that it names.
-/
import Derived.Shelf.Strings.Builder1
import Derived.Shelf.Small.Strs
import Derived.Shelf.Strings.BuilderF
import Derived.Shelf.Strings.BuilderK
import Derived.Shelf.Strconv.Atoi
import Derived.Shelf.Strconv.Itoa0
import Derived.Shelf.Strconv.Itoa1
import Derived.Shelf.LaysM
import Derived.Shelf.Strconv.Itoa2
import Derived.Shelf.Strconv.Itoa3
import Derived.Shelf.Strconv.AtoiErrFast
import Derived.Shelf.Strconv.ParseIntEmpty
import Derived.Shelf.Strconv.AtoiFail
import Derived.Shelf.Strconv.Clone
import Derived.Shelf.Strconv.SyntaxError
import Derived.Shelf.LaysC
import Derived.Shelf.Strconv.ToError
import Derived.Shelf.Strconv.Lower
import Derived.Shelf.Strconv.ParseUint10
import Derived.Shelf.Strconv.ParseUint10Empty
import Derived.Shelf.Strconv.ParseUint10Any
import Derived.Shelf.Strconv.ParseInt10
import Derived.Shelf.Strconv.AtoiLong
import Derived.Shelf.Strconv.AtoiInnerAll
import Derived.Shelf.Strconv.RangeError
import Derived.Shelf.Strconv.ToErrorRange
import Derived.Shelf.Strconv.AtoiAll
import Derived.Shelf.Strconv.ErrVarAll
import Derived.Shelf.Strings.Search1
import Derived.Shelf.Strings.Prefix
import Derived.Test.YtmlpedgcpffpnaaGreatDoorProg
import Derived.Test.YtmlpedgcpffpnaaGreatDoorKZ0
import Derived.Test.YtmlpedgcpffpnaaGreatDoorKQ1
import Derived.Recover
import Derived.Deep.RegionHeld3
set_option linter.unusedSimpArgs false
set_option maxRecDepth 100000
set_option maxHeartbeats 8000000
namespace Go.Proofs.YtmlpedgcpffpnaaGreatDoor
open Go.Shelf
def sh_lays137_ren : Go.Shelf.Ren := ⟨fun | 137 => 183 | 217 => 198 | 266 => 212 | n => n, fun | 9 => 9 | 5 => 5 | 3 => 3 | n => n, fun | n => n⟩
theorem sh_lays137 : Go.Proofs.Lays.n137 Tryz.prog sh_lays137_ren := {
 mixed := by kernel_rfl
 f137 := Tryz.func183.trans (congrArg some (by kernel_rfl))
 f217 := Tryz.func198.trans (congrArg some (by kernel_rfl))
 f266 := Tryz.func212.trans (congrArg some (by kernel_rfl))
 t3 := Tryz.underlying3
 a3 := Tryz.isAgg3
 z3 := Tryz.sizeOf3
 v3 := Tryz.zeroValue3
 t5 := Tryz.underlying5
 a5 := Tryz.isAgg5
 z5 := Tryz.sizeOf5
 v5 := Tryz.zeroValue5
 t9 := Tryz.underlying9
 a9 := Tryz.isAgg9
 z9 := Tryz.sizeOf9
 v9 := Tryz.zeroValue9 }
open Go.RowKit in
theorem sh_strings_IndexByte (s : ByteArray) (c : Int) (w : World) :
 Calls Tryz.prog 183 #[.string s, .int .u8 c] w fun e w' => e = .returned (.int .i64 (Lib.indexByte s.data.toList c.toNat.toUInt8)) /\ w' = w := Any.strings_IndexByte sh_lays137 s c w
def sh_laysM171_ren : Go.Shelf.Ren := ⟨fun | 171 => 115 | 243 => 151 | 246 => 177 | 283 => 192 | 284 => 193 | 285 => 194 | 286 => 195 | 129 => 203 | 317 => 202 | 318 => 204 | 319 => 205 | 320 => 206 | 337 => 217 | 338 => 218 | n => n, fun | 3 => 3 | 9 => 9 | 2 => 2 | 4 => 4 | 171 => 225 | 0 => 0 | 53 => 105 | 37 => 89 | 5 => 5 | 173 => 228 | 212 => 233 | 51 => 234 | 20 => 20 | 213 => 235 | 46 => 236 | 232 => 252 | 233 => 253 | n => n, fun | 17 => 5 | 18 => 9 | 19 => 10 | n => n⟩
theorem sh_laysM171 : Go.Proofs.LaysM.n171 Tryz.prog sh_laysM171_ren := {
 mixed := by kernel_rfl
 f129 := Tryz.func203.trans (congrArg some (by kernel_rfl))
 f171 := Tryz.func115.trans (congrArg some (by kernel_rfl))
 f243 := Tryz.func151.trans (congrArg some (by kernel_rfl))
 f246 := Tryz.func177.trans (congrArg some (by kernel_rfl))
 f283 := Tryz.func192.trans (congrArg some (by kernel_rfl))
 f284 := Tryz.func193.trans (congrArg some (by kernel_rfl))
 f285 := Tryz.func194.trans (congrArg some (by kernel_rfl))
 f286 := Tryz.func195.trans (congrArg some (by kernel_rfl))
 f317 := Tryz.func202.trans (congrArg some (by kernel_rfl))
 f318 := Tryz.func204.trans (congrArg some (by kernel_rfl))
 f319 := Tryz.func205.trans (congrArg some (by kernel_rfl))
 f320 := Tryz.func206.trans (congrArg some (by kernel_rfl))
 f337 := Tryz.func217.trans (congrArg some (by kernel_rfl))
 f338 := Tryz.func218.trans (congrArg some (by kernel_rfl))
 t0 := Tryz.underlying0
 a0 := Tryz.isAgg0
 z0 := Tryz.sizeOf0
 v0 := Tryz.zeroValue0
 t2 := Tryz.underlying2
 a2 := Tryz.isAgg2
 z2 := Tryz.sizeOf2
 v2 := Tryz.zeroValue2
 t3 := Tryz.underlying3
 a3 := Tryz.isAgg3
 z3 := Tryz.sizeOf3
 v3 := Tryz.zeroValue3
 t4 := Tryz.underlying4
 a4 := Tryz.isAgg4
 z4 := Tryz.sizeOf4
 v4 := Tryz.zeroValue4
 t5 := Tryz.underlying5
 a5 := Tryz.isAgg5
 z5 := Tryz.sizeOf5
 v5 := Tryz.zeroValue5
 t9 := Tryz.underlying9
 a9 := Tryz.isAgg9
 z9 := Tryz.sizeOf9
 v9 := Tryz.zeroValue9
 t20 := Tryz.underlying20
 a20 := Tryz.isAgg20
 z20 := Tryz.sizeOf20
 v20 := Tryz.zeroValue20
 t37 := Tryz.underlying89
 a37 := Tryz.isAgg89
 z37 := Tryz.sizeOf89
 v37 := Tryz.zeroValue89
 t46 := Tryz.underlying236
 a46 := Tryz.isAgg236
 z46 := Tryz.sizeOf236
 v46 := Tryz.zeroValue236
 t51 := Tryz.underlying234
 a51 := Tryz.isAgg234
 z51 := Tryz.sizeOf234
 v51 := Tryz.zeroValue234
 t53 := Tryz.underlying105
 a53 := Tryz.isAgg105
 z53 := Tryz.sizeOf105
 v53 := Tryz.zeroValue105
 t171 := Tryz.underlying225
 a171 := Tryz.isAgg225
 z171 := Tryz.sizeOf225
 v171 := Tryz.zeroValue225
 t173 := Tryz.underlying228
 a173 := Tryz.isAgg228
 z173 := Tryz.sizeOf228
 v173 := Tryz.zeroValue228
 t212 := Tryz.underlying233
 a212 := Tryz.isAgg233
 z212 := Tryz.sizeOf233
 v212 := Tryz.zeroValue233
 t213 := Tryz.underlying235
 a213 := Tryz.isAgg235
 z213 := Tryz.sizeOf235
 t232 := Tryz.underlying252
 a232 := Tryz.isAgg252
 z232 := Tryz.sizeOf252
 v232 := Tryz.zeroValue252
 t233 := Tryz.underlying253
 a233 := Tryz.isAgg253
 z233 := Tryz.sizeOf253
 v233 := Tryz.zeroValue253
 g17 := by kernel_rfl
 g18 := by kernel_rfl
 g19 := by kernel_rfl
 i0 := by kernel_rfl
 i2 := by kernel_rfl
 i3 := by kernel_rfl
 i4 := by kernel_rfl
 i5 := by kernel_rfl
 i9 := by kernel_rfl
 i20 := by kernel_rfl
 i37 := by kernel_rfl
 i46 := by kernel_rfl
 i51 := by kernel_rfl
 i53 := by kernel_rfl
 i171 := by kernel_rfl
 i173 := by kernel_rfl
 i212 := by kernel_rfl
 i232 := by kernel_rfl
 i233 := by kernel_rfl
 m17 := by kernel_rfl
 m18 := by kernel_rfl
 m19 := by kernel_rfl }
open Go.RowKit Go.Sort Go.Lib in
theorem sh_strconv_Itoa (n : Int) (h0 : -9223372036854775808 <= n) (h1 : n <= 9223372036854775807) (w : World) (htab : Lib.TabIs Tryz.prog w "internal/strconv.uint64pow10" .u64 Lib.pow10Tab) :
 Calls Tryz.prog 115 #[.int .i64 n] w fun e w' => e = .returned (.string ⟨(Lib.itoa n).toArray⟩) /\ ∃ k os, w' = grow (w.drewN k) os := Any.strconv_Itoa sh_laysM171 n h0 h1 w htab
def sh_laysC172_ren : Go.Shelf.Ren := ⟨fun | 172 => 182 | 244 => 196 | 245 => 197 | 247 => 207 | 279 => 208 | 280 => 209 | 281 => 210 | 282 => 211 | 287 => 219 | 316 => 220 | 171 => 115 | 205 => 221 | 321 => 222 | 322 => 223 | 243 => 151 | 246 => 177 | 283 => 192 | 284 => 193 | 285 => 194 | 286 => 195 | 129 => 203 | 317 => 202 | 318 => 204 | 319 => 205 | 320 => 206 | 337 => 217 | 338 => 218 | n => n, fun | 9 => 9 | 3 => 3 | 75 => 153 | 76 => 154 | 4 => 4 | 5 => 5 | 167 => 238 | 37 => 89 | 0 => 0 | 85 => 239 | 2 => 2 | 168 => 241 | 53 => 105 | 175 => 246 | 46 => 236 | 210 => 250 | 127 => 186 | 145 => 257 | 143 => 255 | 21 => 21 | 171 => 225 | 173 => 228 | 212 => 233 | 51 => 234 | 20 => 20 | 213 => 235 | 232 => 252 | 233 => 253 | 80 => 157 | n => n, fun | 15 => 6 | 16 => 7 | 17 => 5 | 18 => 9 | 19 => 10 | n => n⟩
theorem sh_laysC172 : Go.Proofs.LaysC.n172 Tryz.prog sh_laysC172_ren := {
 mixed := by kernel_rfl
 f129 := Tryz.func203.trans (congrArg some (by kernel_rfl))
 f171 := Tryz.func115.trans (congrArg some (by kernel_rfl))
 f172 := Tryz.func182.trans (congrArg some (by kernel_rfl))
 f205 := Tryz.func221.trans (congrArg some (by kernel_rfl))
 f243 := Tryz.func151.trans (congrArg some (by kernel_rfl))
 f244 := Tryz.func196.trans (congrArg some (by kernel_rfl))
 f245 := Tryz.func197.trans (congrArg some (by kernel_rfl))
 f246 := Tryz.func177.trans (congrArg some (by kernel_rfl))
 f247 := Tryz.func207.trans (congrArg some (by kernel_rfl))
 f279 := Tryz.func208.trans (congrArg some (by kernel_rfl))
 f280 := Tryz.func209.trans (congrArg some (by kernel_rfl))
 f281 := Tryz.func210.trans (congrArg some (by kernel_rfl))
 f282 := Tryz.func211.trans (congrArg some (by kernel_rfl))
 f283 := Tryz.func192.trans (congrArg some (by kernel_rfl))
 f284 := Tryz.func193.trans (congrArg some (by kernel_rfl))
 f285 := Tryz.func194.trans (congrArg some (by kernel_rfl))
 f286 := Tryz.func195.trans (congrArg some (by kernel_rfl))
 f287 := Tryz.func219.trans (congrArg some (by kernel_rfl))
 f316 := Tryz.func220.trans (congrArg some (by kernel_rfl))
 f317 := Tryz.func202.trans (congrArg some (by kernel_rfl))
 f318 := Tryz.func204.trans (congrArg some (by kernel_rfl))
 f319 := Tryz.func205.trans (congrArg some (by kernel_rfl))
 f320 := Tryz.func206.trans (congrArg some (by kernel_rfl))
 f321 := Tryz.func222.trans (congrArg some (by kernel_rfl))
 f322 := Tryz.func223.trans (congrArg some (by kernel_rfl))
 f337 := Tryz.func217.trans (congrArg some (by kernel_rfl))
 f338 := Tryz.func218.trans (congrArg some (by kernel_rfl))
 t0 := Tryz.underlying0
 a0 := Tryz.isAgg0
 z0 := Tryz.sizeOf0
 v0 := Tryz.zeroValue0
 t2 := Tryz.underlying2
 a2 := Tryz.isAgg2
 z2 := Tryz.sizeOf2
 v2 := Tryz.zeroValue2
 t3 := Tryz.underlying3
 a3 := Tryz.isAgg3
 z3 := Tryz.sizeOf3
 v3 := Tryz.zeroValue3
 t4 := Tryz.underlying4
 a4 := Tryz.isAgg4
 z4 := Tryz.sizeOf4
 v4 := Tryz.zeroValue4
 t5 := Tryz.underlying5
 a5 := Tryz.isAgg5
 z5 := Tryz.sizeOf5
 v5 := Tryz.zeroValue5
 t9 := Tryz.underlying9
 a9 := Tryz.isAgg9
 z9 := Tryz.sizeOf9
 v9 := Tryz.zeroValue9
 t20 := Tryz.underlying20
 a20 := Tryz.isAgg20
 z20 := Tryz.sizeOf20
 v20 := Tryz.zeroValue20
 t21 := Tryz.underlying21
 a21 := Tryz.isAgg21
 z21 := Tryz.sizeOf21
 v21 := Tryz.zeroValue21
 t37 := Tryz.underlying89
 a37 := Tryz.isAgg89
 z37 := Tryz.sizeOf89
 v37 := Tryz.zeroValue89
 t46 := Tryz.underlying236
 a46 := Tryz.isAgg236
 z46 := Tryz.sizeOf236
 v46 := Tryz.zeroValue236
 t51 := Tryz.underlying234
 a51 := Tryz.isAgg234
 z51 := Tryz.sizeOf234
 v51 := Tryz.zeroValue234
 t53 := Tryz.underlying105
 a53 := Tryz.isAgg105
 z53 := Tryz.sizeOf105
 v53 := Tryz.zeroValue105
 t75 := Tryz.underlying153
 a75 := Tryz.isAgg153
 z75 := Tryz.sizeOf153
 v75 := Tryz.zeroValue153
 t76 := Tryz.underlying154
 a76 := Tryz.isAgg154
 z76 := Tryz.sizeOf154
 v76 := Tryz.zeroValue154
 t85 := Tryz.underlying239
 a85 := Tryz.isAgg239
 z85 := Tryz.sizeOf239
 v85 := Tryz.zeroValue239
 t127 := Tryz.underlying186
 a127 := Tryz.isAgg186
 z127 := Tryz.sizeOf186
 v127 := Tryz.zeroValue186
 t143 := Tryz.underlying255
 a143 := Tryz.isAgg255
 z143 := Tryz.sizeOf255
 v143 := Tryz.zeroValue255
 t145 := Tryz.underlying257
 a145 := Tryz.isAgg257
 z145 := Tryz.sizeOf257
 v145 := Tryz.zeroValue257
 t167 := Tryz.underlying238
 a167 := Tryz.isAgg238
 z167 := Tryz.sizeOf238
 v167 := Tryz.zeroValue238
 t168 := Tryz.underlying241
 a168 := Tryz.isAgg241
 z168 := Tryz.sizeOf241
 v168 := Tryz.zeroValue241
 t171 := Tryz.underlying225
 a171 := Tryz.isAgg225
 z171 := Tryz.sizeOf225
 v171 := Tryz.zeroValue225
 t173 := Tryz.underlying228
 a173 := Tryz.isAgg228
 z173 := Tryz.sizeOf228
 v173 := Tryz.zeroValue228
 t175 := Tryz.underlying246
 a175 := Tryz.isAgg246
 z175 := Tryz.sizeOf246
 v175 := Tryz.zeroValue246
 t210 := Tryz.underlying250
 a210 := Tryz.isAgg250
 z210 := Tryz.sizeOf250
 v210 := Tryz.zeroValue250
 t212 := Tryz.underlying233
 a212 := Tryz.isAgg233
 z212 := Tryz.sizeOf233
 v212 := Tryz.zeroValue233
 t213 := Tryz.underlying235
 a213 := Tryz.isAgg235
 z213 := Tryz.sizeOf235
 t232 := Tryz.underlying252
 a232 := Tryz.isAgg252
 z232 := Tryz.sizeOf252
 v232 := Tryz.zeroValue252
 t233 := Tryz.underlying253
 a233 := Tryz.isAgg253
 z233 := Tryz.sizeOf253
 v233 := Tryz.zeroValue253
 g15 := by kernel_rfl
 g16 := by kernel_rfl
 g17 := by kernel_rfl
 g18 := by kernel_rfl
 g19 := by kernel_rfl
 t80 := Tryz.underlying157
 a80 := Tryz.isAgg157
 z80 := Tryz.sizeOf157
 v80 := Tryz.zeroValue157
 i0 := by kernel_rfl
 i2 := by kernel_rfl
 i3 := by kernel_rfl
 i4 := by kernel_rfl
 i5 := by kernel_rfl
 i9 := by kernel_rfl
 i20 := by kernel_rfl
 i21 := by kernel_rfl
 i37 := by kernel_rfl
 i46 := by kernel_rfl
 i51 := by kernel_rfl
 i53 := by kernel_rfl
 i75 := by kernel_rfl
 i76 := by kernel_rfl
 i80 := by kernel_rfl
 i85 := by kernel_rfl
 i127 := by kernel_rfl
 i143 := by kernel_rfl
 i145 := by kernel_rfl
 i167 := by kernel_rfl
 i168 := by kernel_rfl
 i171 := by kernel_rfl
 i173 := by kernel_rfl
 i175 := by kernel_rfl
 i210 := by kernel_rfl
 i212 := by kernel_rfl
 i232 := by kernel_rfl
 i233 := by kernel_rfl
 m15 := by kernel_rfl
 m16 := by kernel_rfl
 m17 := by kernel_rfl
 m18 := by kernel_rfl
 m19 := by kernel_rfl
 c0 := by kernel_rfl
 c2 := by kernel_rfl
 c3 := by kernel_rfl
 c4 := by kernel_rfl
 c5 := by kernel_rfl
 c9 := by kernel_rfl
 c20 := by kernel_rfl
 c21 := by kernel_rfl
 c37 := by kernel_rfl
 c46 := by kernel_rfl
 c51 := by kernel_rfl
 c53 := by kernel_rfl
 c75 := by kernel_rfl
 c76 := by kernel_rfl
 c80 := by kernel_rfl
 c85 := by kernel_rfl
 c127 := by kernel_rfl
 c143 := by kernel_rfl
 c145 := by kernel_rfl
 c167 := by kernel_rfl
 c168 := by kernel_rfl
 c171 := by kernel_rfl
 c173 := by kernel_rfl
 c175 := by kernel_rfl
 c210 := by kernel_rfl
 c212 := by kernel_rfl
 c213 := by kernel_rfl
 c232 := by kernel_rfl
 c233 := by kernel_rfl }
open Go.RowKit in
theorem sh_strconv_Atoi_ok (s : ByteArray) (hmax : s.size <= 9223372036854775806) (v : Int) (h : Lib.atoiAll s.data.toList = .ok v) (w : World) :
 Calls Tryz.prog 182 #[.string s] w fun e w' => e = .returned (.tuple #[.int .i64 v, .nilIface]) /\ (w' = w \/ ∃ t, w' = Lib.bytesWorld w 5 t) := Any.strconv_Atoi_ok sh_laysC172 s hmax v h w
open Go.RowKit in
theorem sh_strconv_Atoi_range (s : ByteArray) (hlim : s.size <= 281474976710656) (h : Lib.atoiAll s.data.toList = .range) (ev : Value) (w : World) (hv : w.cell? ⟨7, 0, none⟩ = some ev) (hev : ev = .nilIface \/ ∃ te pe, ev = .iface te pe) :
 Calls Tryz.prog 182 #[.string s] w fun e w' => ∃ N, e = .returned (.tuple #[.int .i64 (Lib.atoiSat s.data.toList), .iface 241 (.pointer (some ⟨N, 0, none⟩))]) /\ w.heap.size <= N /\ w'.heap[N]? = some (.cells #[.string ⟨#[65, 116, 111, 105]⟩, .string s, ev] 250 (0, 0)) /\ Below w.heap.size w w' := Any.strconv_Atoi_range sh_laysC172 s hlim h ev w hv hev
def sh_lays99_ren : Go.Shelf.Ren := ⟨fun | 99 => 155 | 206 => 178 | n => n, fun | 9 => 9 | 4 => 4 | 3 => 3 | n => n, fun | n => n⟩
theorem sh_lays99 : Go.Proofs.Lays.n99 Tryz.prog sh_lays99_ren := {
 mixed := by kernel_rfl
 f99 := Tryz.func155.trans (congrArg some (by kernel_rfl))
 f206 := Tryz.func178.trans (congrArg some (by kernel_rfl))
 t3 := Tryz.underlying3
 a3 := Tryz.isAgg3
 z3 := Tryz.sizeOf3
 v3 := Tryz.zeroValue3
 t4 := Tryz.underlying4
 a4 := Tryz.isAgg4
 z4 := Tryz.sizeOf4
 v4 := Tryz.zeroValue4
 t9 := Tryz.underlying9
 a9 := Tryz.isAgg9
 z9 := Tryz.sizeOf9
 v9 := Tryz.zeroValue9 }
open Go.RowKit Go.Lib in
theorem sh_strings_HasPrefix (s p : ByteArray) (w : World) :
 Calls Tryz.prog 155 #[.string s, .string p] w fun e w' => e = .returned (.bool (Lib.hasPrefix s.data.toList p.data.toList)) /\ w' = w := Any.strings_HasPrefix sh_lays99 s p w
end Go.Proofs.YtmlpedgcpffpnaaGreatDoor
namespace Go.Proofs.YtmlpedgcpffpnaaGreatDoor
open Go.RowKit
theorem bt_extract (s : ByteArray) (a e j : Nat) (he : e <= s.size) (hj : j < e - a) : bt (s.extract a e) j = bt s (a + j) := by
 have h1 : j < (s.extract a e).size := by rw [ByteArray.size_extract]; omega
 have h2 : a + j < s.size := by omega
 rw [bt_in h1, bt_in h2];rw [ByteArray.getElem_extract]
theorem bt_suffix (s : ByteArray) (a j : Nat) : bt (s.extract a s.size) j = bt s (a + j) := by
 by_cases h : j < s.size - a
 ·exact bt_extract s a s.size j (Nat.le_refl _) h
 ·rw [bt_out (by rw [ByteArray.size_extract]; omega), bt_out (by omega)]
theorem size_toL (s : ByteArray) : s.size = s.data.toList.length := rfl
theorem prefix_one (c : UInt8) : ∀ (l : List UInt8) (h : 0 < l.length), Lib.hasPrefix l [c] = decide (((l[0]'h).toNat : Int) = (c.toNat : Int))
 | d :: r, _ => by
   simp only [Lib.hasPrefix, List.isPrefixOf, List.getElem_cons_zero, Bool.and_true];rw [Bool.eq_iff_iff];simp only [beq_iff_eq, decide_eq_true_eq]
   constructor
   ·intro e; subst e; rfl
   ·intro e
    apply UInt8.toNat_inj.1
    omega
theorem prefix_byte (c : UInt8) (s : ByteArray) : Lib.hasPrefix s.data.toList [c] = decide (bt s 0 = (c.toNat : Int)) := by
 by_cases h : 0 < s.size
 ·rw [bt_in h];exact prefix_one c s.data.toList (by rw [<- size_toL]; exact h)
 ·rw [bt_out h];have hl : s.data.toList = [] := List.eq_nil_of_length_eq_zero (by rw [<- size_toL]; omega);rw [hl, dEf (by omega)];rfl
def SpanAt (P : Int -> Bool) (s : ByteArray) (a k : Nat) : Prop := a + k <= s.size /\ (∀ j, j < k -> P (bt s (a + j)) = true) /\ (a + k < s.size -> P (bt s (a + k)) = false)
theorem SpanIs.at {P : Int -> Bool} {s : ByteArray} {a k : Nat} (ha : a <= s.size) (h : SpanIs P (s.extract a s.size) k) : SpanAt P s a k := by
 obtain ⟨h1, h2, h3⟩ := h;rw [ByteArray.size_extract] at h1 h3;refine ⟨by omega, fun j hj => ?_, fun hk => ?_⟩
 ·rw [<- bt_suffix]; exact h2 j hj
 ·rw [<- bt_suffix]; exact h3 (by omega)
inductive GapAt (s : ByteArray) : Nat -> Nat -> Prop
 | stop (a k : Nat) (h : SpanAt blkB s a k) (hn : bt s (a + k) ≠ 35) : GapAt s a (a + k)
 | more (a k m n : Nat) (h : SpanAt blkB s a k) (hn : bt s (a + k) = 35) (hm : SpanAt nlfB s (a + k) m) (hr : GapAt s (a + k + m) n) : GapAt s a n
theorem hash_at (s : ByteArray) (a : Nat) (b : Bool) (h : decide (bt s a = 35) = b) (w : World) :
 Calls Tryz.prog 155 #[.string (s.extract a s.size), .string ⟨#[35]⟩] w fun e w' => e = .returned (.bool b) /\ w' = w := by
 have := sh_strings_HasPrefix (s.extract a s.size) ⟨#[35]⟩ w;rw [show (⟨#[35]⟩ : ByteArray).data.toList = [35] from rfl, prefix_byte, bt_suffix, Nat.add_zero, show (((35 : UInt8).toNat : Nat) : Int) = 35 from rfl, h] at this;exact this
theorem gap_any (s : ByteArray) (w : World) (hs : s.size <= 140737488351232) :
 Calls Tryz.prog 120 #[.string s] w fun e w' => ∃ n : Nat, e = .returned (.int .i64 (n : Int)) /\ GapAt s 0 n /\ n <= s.size /\ Below w.heap.size w w' := by
 go_enter Tryz.func120, Tryz.ntmps120
 go_wp2_with fail
 go_loopw [3] (fun av wr => ∃ a : Nat, av = .int .i64 (a : Int) /\ a <= s.size /\ (∀ n, GapAt s a n -> GapAt s 0 n) /\ Below w.heap.size w wr) (fun av _ => s.size - (intOf av).toNat)
 case atStart => exact ⟨0, rfl, Nat.zero_le _, fun n h => h, Below.refl _ _⟩
 case round =>
  obtain ⟨a, rfl, ha, hg, hb⟩ := hrel;have HG := Hd hg;have HB := Hd hb;clear hg hb;have ha' : (a : Int) <= (s.size : Int) := by omega
  go_wp2_with fail
  refine (span_blanks _ _).mono ?_;rintro e w1 ⟨k, rfl, h1, h2⟩;have h1 := h1.at ha;have hk := h1.1;have H1 := Hd h1;have HB1 := Hd (HB.out.trans (h2.mono HB.out.size));clear h1 h2;have hk' : (a : Int) + (k : Int) <= (s.size : Int) := by omega
  have HH := Hd (fun b (h : decide (bt s (a + k) = 35) = b) w => hash_at s (a + k) b h w)
  by_cases h35 : bt s (a + k) = 35
  ·have HH := Hd (HH.out true (decide_eq_true h35));have H35 := Hd h35;clear h35;go_wp2_with fail
   refine (HH.out _).mono ?_;rintro e w2 ⟨rfl, h2⟩;subst w2;go_wp2_with fail
   refine (span_line _ _).mono ?_;rintro e w2 ⟨m, rfl, h1, h2⟩;have h1 := h1.at hk;have hm := h1.1;have hm1 : 1 <= m := by
    rcases Nat.eq_zero_or_pos m with rfl | h
    ·have hlt : a + k < s.size := by
      by_cases h : a + k < s.size
      ·exact h
      ·have := H35.out; rw [bt_out h] at this; omega
     have := h1.2.2 hlt;rw [Nat.add_zero, H35.out] at this
     cases this
    ·exact h
   have HM := Hd h1;have HB2 := Hd (HB1.out.trans (h2.mono HB1.out.size));clear h1 h2;have hm' : (a : Int) + (k : Int) + (m : Int) <= (s.size : Int) := by omega
   go_wp2_with fail
   go_roundw
   case rel => exact ⟨a + k + m, by go_num, hm, fun n h => HG.out n (.more a k m n H1.out H35.out HM.out h), HB2.out⟩
   case measure => simp [intOf]; omega
  ·have HH := Hd (HH.out false (dEf h35));have H35 := Hd h35;clear h35;go_wp2_with fail
   refine (HH.out _).mono ?_;rintro e w2 ⟨rfl, h2⟩;subst w2;go_wp2_with fail
   go_ret;exact ⟨a + k, rfl, HG.out _ (.stop a k H1.out H35.out), hk, HB1.out⟩
def gone (e a : Int) : List PanicEntry := [{ v := .iface 187 (.agg #[.int .i64 e, .int .i64 a]), recovered := false }]
theorem giveUp_any (e a : Int) (w : World) : Calls Tryz.prog 180 #[.int .i64 e, .int .i64 a] w fun x w' => x = .panicked (gone e a) /\ w' = w := by
 go_enter Tryz.func180, Tryz.ntmps180
 go_wp2_with fail
 exact ⟨rfl, rfl, rfl⟩
def tokV (k : Int) (s : ByteArray) (n : Int) (p : Bool) (a : Int) : Value := .agg #[.int .i64 k, .string s, .int .i64 n, .bool p, .int .i64 a]
theorem word_gone (s : ByteArray) (a : Int) (n : Nat) (w : World) (hn : SpanIs letB s n) (h8 : 8 < n) :
 Calls Tryz.prog 158 #[.string s, .int .i64 a] w fun e w' => e = .panicked (gone 3 a) /\ Below w.heap.size w w' := by
 have HN := Hd hn;have HZ := Hd ((Below.refl w.heap.size w).alloc (Nat.le_refl _) (.cells #[.int .i64 0, .string ByteArray.empty, .int .i64 0, .bool false, .int .i64 0] 94));clear hn
 go_enter Tryz.func158, Tryz.ntmps158
 go_wp2_with fail
 refine (letters_any s _).mono ?_;rintro e w1 ⟨m, rfl, h1, h2⟩;obtain rfl := h1.unique HN.out;have HB1 := Hd (HZ.out.trans (h2.mono HZ.out.size));clear h1 h2;have h8' : (8 : Int) < (m : Int) := by omega
 go_wp2_with fail
 refine (giveUp_any _ _ _).mono ?_;rintro e w2 ⟨rfl, rfl⟩;go_wp2_with fail
 exact ⟨rfl, rfl, HB1.out⟩
def TBox (w : World) (g : Nat) (k : Int) (s : ByteArray) (n : Int) (p : Bool) (a : Int) : Prop :=
 (w.cell? ⟨g, 0, none⟩ = some (.int .i64 k) /\ w.cell? ⟨g, 1, none⟩ = some (.string s) /\ w.cell? ⟨g, 2, none⟩ = some (.int .i64 n) /\ w.cell? ⟨g, 3, none⟩ = some (.bool p) /\ w.cell? ⟨g, 4, none⟩ = some (.int .i64 a)) ∧
 (w.frozen? ⟨g, 0, none⟩ = false /\ w.frozen? ⟨g, 1, none⟩ = false /\ w.frozen? ⟨g, 2, none⟩ = false /\ w.frozen? ⟨g, 3, none⟩ = false /\ w.frozen? ⟨g, 4, none⟩ = false)
theorem TBox.made (w : World) (T : TypeId) (k : Int) (s : ByteArray) (n : Int) (p : Bool) (a : Int) : TBox (w.alloc (.cells #[.int .i64 k, .string s, .int .i64 n, .bool p, .int .i64 a] T)) w.heap.size k s n p a := by
 refine ⟨⟨?_, ?_, ?_, ?_, ?_⟩, ?_, ?_, ?_, ?_, ?_⟩ <;> simp
theorem TBox.below {w w' : World} {g : Nat} {k : Int} {s : ByteArray} {n : Int} {p : Bool} {a : Int} (h : TBox w g k s n p a) (hb : Below w.heap.size w w') : TBox w' g k s n p a := by
 have hg : g < w.heap.size := by
  by_cases hb : g < w.heap.size
  ·exact hb
  ·have : w.heap[g]? = none := Array.getElem?_eq_none (by omega);have h0 := h.1.1;simp [World.cell?, this] at h0
 obtain ⟨⟨a0, a1, a2, a3, a4⟩, b0, b1, b2, b3, b4⟩ := h
 exact ⟨⟨(hb.cell (p := ⟨g, 0, none⟩) hg).trans a0, (hb.cell (p := ⟨g, 1, none⟩) hg).trans a1, (hb.cell (p := ⟨g, 2, none⟩) hg).trans a2, (hb.cell (p := ⟨g, 3, none⟩) hg).trans a3, (hb.cell (p := ⟨g, 4, none⟩) hg).trans a4⟩,
  (hb.frozen (p := ⟨g, 0, none⟩) hg).trans b0, (hb.frozen (p := ⟨g, 1, none⟩) hg).trans b1, (hb.frozen (p := ⟨g, 2, none⟩) hg).trans b2, (hb.frozen (p := ⟨g, 3, none⟩) hg).trans b3, (hb.frozen (p := ⟨g, 4, none⟩) hg).trans b4⟩
def tput (w : World) (g : Nat) (v0 v1 v2 v3 v4 : Value) : World := ((((w.setCell ⟨g, 0, none⟩ v0).setCell ⟨g, 1, none⟩ v1).setCell ⟨g, 2, none⟩ v2).setCell ⟨g, 3, none⟩ v3).setCell ⟨g, 4, none⟩ v4
theorem TBox.far {w : World} {g : Nat} {k : Int} {s : ByteArray} {n : Int} {p : Bool} {a : Int} (h : TBox w g k s n p a) (v0 v1 v2 v3 : Value) :
 (w.setCell ⟨g, 0, none⟩ v0).cell? ⟨g, 1, none⟩ = some (.string s) /\ ((w.setCell ⟨g, 0, none⟩ v0).setCell ⟨g, 1, none⟩ v1).cell? ⟨g, 2, none⟩ = some (.int .i64 n) ∧
 (((w.setCell ⟨g, 0, none⟩ v0).setCell ⟨g, 1, none⟩ v1).setCell ⟨g, 2, none⟩ v2).cell? ⟨g, 3, none⟩ = some (.bool p) ∧
 ((((w.setCell ⟨g, 0, none⟩ v0).setCell ⟨g, 1, none⟩ v1).setCell ⟨g, 2, none⟩ v2).setCell ⟨g, 3, none⟩ v3).cell? ⟨g, 4, none⟩ = some (.int .i64 a) := by
 obtain ⟨⟨a0, a1, a2, a3, a4⟩, -⟩ := h;have ne : ∀ i j : Nat, i ≠ j -> (⟨g, i, none⟩ : Addr) ≠ ⟨g, j, none⟩ := fun i j h e => h (by injection e)
 refine ⟨?_, ?_, ?_, ?_⟩
 ·rw [World.cell?_setCell_other (h := ne 0 1 (by decide))]; exact a1
 ·rw [World.cell?_setCell_other (h := ne 1 2 (by decide)), World.cell?_setCell_other (h := ne 0 2 (by decide))]; exact a2
 ·rw [World.cell?_setCell_other (h := ne 2 3 (by decide)), World.cell?_setCell_other (h := ne 1 3 (by decide)), World.cell?_setCell_other (h := ne 0 3 (by decide))]; exact a3
 ·rw [World.cell?_setCell_other (h := ne 3 4 (by decide)), World.cell?_setCell_other (h := ne 2 4 (by decide)), World.cell?_setCell_other (h := ne 1 4 (by decide)), World.cell?_setCell_other (h := ne 0 4 (by decide))]; exact a4
theorem TBox.put {w : World} {g : Nat} {k : Int} {s : ByteArray} {n : Int} {p : Bool} {a : Int} (h : TBox w g k s n p a) (k' : Int) (s' : ByteArray) (n' : Int) (p' : Bool) (a' : Int) :
 TBox (tput w g (.int .i64 k') (.string s') (.int .i64 n') (.bool p') (.int .i64 a')) g k' s' n' p' a' := by
 obtain ⟨f1, f2, f3, f4⟩ := h.far (.int .i64 k') (.string s') (.int .i64 n') (.bool p');obtain ⟨⟨a0, a1, a2, a3, a4⟩, b0, b1, b2, b3, b4⟩ := h;have ne : ∀ i j : Nat, i ≠ j -> (⟨g, i, none⟩ : Addr) ≠ ⟨g, j, none⟩ := fun i j h e => h (by injection e)
 unfold tput;refine ⟨⟨?_, ?_, ?_, ?_, ?_⟩, ?_, ?_, ?_, ?_, ?_⟩
 ·rw [World.cell?_setCell_other (h := ne 4 0 (by decide)), World.cell?_setCell_other (h := ne 3 0 (by decide)), World.cell?_setCell_other (h := ne 2 0 (by decide)), World.cell?_setCell_other (h := ne 1 0 (by decide))];exact World.cell?_setCell_same _ _ _ a0
 ·rw [World.cell?_setCell_other (h := ne 4 1 (by decide)), World.cell?_setCell_other (h := ne 3 1 (by decide)), World.cell?_setCell_other (h := ne 2 1 (by decide))];exact World.cell?_setCell_same _ _ _ f1
 ·rw [World.cell?_setCell_other (h := ne 4 2 (by decide)), World.cell?_setCell_other (h := ne 3 2 (by decide))];exact World.cell?_setCell_same _ _ _ f2
 ·rw [World.cell?_setCell_other (h := ne 4 3 (by decide))];exact World.cell?_setCell_same _ _ _ f3
 ·exact World.cell?_setCell_same _ _ _ f4
 all_goals (simp only [World.frozen?_setCell]; assumption)
theorem word_name (s : ByteArray) (a : Int) (n : Nat) (w : World) (hn : SpanIs letB s n) (h8 : n <= 8) (hw : wordB (s.extract 0 n) = false) :
 Calls Tryz.prog 158 #[.string s, .int .i64 a] w fun e w' => e = .returned (tokV 1 (s.extract 0 n) 0 false a) /\ Below w.heap.size w w' := by
 have HN := Hd hn;have HZ := Hd ((Below.refl w.heap.size w).alloc (Nat.le_refl _) (.cells #[.int .i64 0, .string ByteArray.empty, .int .i64 0, .bool false, .int .i64 0] 94));have HX := Hd (TBox.made w 94 0 ByteArray.empty 0 false 0);have hle := hn.1;have HW : Hid (∀ w, Calls Tryz.prog 171 #[.string (s.extract 0 n)] w fun e w' => e = .returned (.bool false) /\ w' = w) := fun w => by rw [<- hw]; exact isWord_any _ w
 clear hn hw
 go_enter Tryz.func158, Tryz.ntmps158
 go_wp2_with fail
 refine (letters_any s _).mono ?_;rintro e w1 ⟨m, rfl, h1, h2⟩;obtain rfl := h1.unique HN.out;have HB1 := Hd (HZ.out.trans (h2.mono HZ.out.size));have HX1 := Hd (HX.out.below h2);have HX2 := Hd (HX1.out.below ((Below.refl w1.heap.size w1).alloc (Nat.le_refl _) (.cells #[.int .i64 1, .string (s.extract 0 m), .int .i64 0, .bool false, .int .i64 a] 94)));have hne : w.heap.size < w1.heap.size := by
  have := h2.size;simp at this;omega
 clear h1 h2;have h8' : (m : Int) <= 8 := by omega
 have h8B : decide ((8 : Int) < (m : Int)) = false := dEf (by omega);have hle' : (m : Int) <= (s.size : Int) := by omega
 go_wp2_with fail
 refine (HW.out _).mono ?_;rintro e w2 ⟨rfl, h2⟩;subst w2;obtain ⟨⟨c0, c1, c2, c3, c4⟩, z0, z1, z2, z3, z4⟩ := HX1.out;go_wp2_with fail
 refine bodyPost_ret (v := tokV 1 (s.extract 0 m) 0 false a) ?_ rfl ⟨rfl, ?_⟩
 ·obtain ⟨⟨e0, e1, e2, e3, e4⟩, -⟩ := HX1.out.put 1 (s.extract 0 m) 0 false a;unfold tput at e0 e1 e2 e3 e4;simp [results, Tryz.results158, go_sem, e0, e1, e2, e3, e4, tokV, hne]
 ·exact (((((HB1.out.setCell (by simp) _).setCell (by simp) _).setCell (by simp) _).setCell (by simp) _).setCell (by simp) _).alloc (by simp; omega) _
theorem word_word (s : ByteArray) (a : Int) (n : Nat) (w : World) (hn : SpanIs letB s n) (h8 : n <= 8) (hw : wordB (s.extract 0 n) = true) :
 Calls Tryz.prog 158 #[.string s, .int .i64 a] w fun e w' => e = .returned (tokV 4 (s.extract 0 n) 0 false a) /\ Below w.heap.size w w' := by
 have HN := Hd hn;have HZ := Hd ((Below.refl w.heap.size w).alloc (Nat.le_refl _) (.cells #[.int .i64 0, .string ByteArray.empty, .int .i64 0, .bool false, .int .i64 0] 94));have HX := Hd (TBox.made w 94 0 ByteArray.empty 0 false 0);have hle := hn.1;have HW : Hid (∀ w, Calls Tryz.prog 171 #[.string (s.extract 0 n)] w fun e w' => e = .returned (.bool true) /\ w' = w) := fun w => by rw [<- hw]; exact isWord_any _ w
 clear hn hw
 go_enter Tryz.func158, Tryz.ntmps158
 go_wp2_with fail
 refine (letters_any s _).mono ?_;rintro e w1 ⟨m, rfl, h1, h2⟩;obtain rfl := h1.unique HN.out;have HB1 := Hd (HZ.out.trans (h2.mono HZ.out.size));have HX1 := Hd (HX.out.below h2);have HX2 := Hd (HX1.out.below ((Below.refl w1.heap.size w1).alloc (Nat.le_refl _) (.cells #[.int .i64 1, .string (s.extract 0 m), .int .i64 0, .bool false, .int .i64 a] 94)));have hne : w.heap.size < w1.heap.size := by
  have := h2.size;simp at this;omega
 clear h1 h2;have h8' : (m : Int) <= 8 := by omega
 have h8B : decide ((8 : Int) < (m : Int)) = false := dEf (by omega);have hle' : (m : Int) <= (s.size : Int) := by omega
 go_wp2_with fail
 refine (HW.out _).mono ?_;rintro e w2 ⟨rfl, h2⟩;subst w2;obtain ⟨⟨c0, c1, c2, c3, c4⟩, z0, z1, z2, z3, z4⟩ := HX1.out;go_wp2_with fail
 refine bodyPost_ret (v := tokV 4 (s.extract 0 m) 0 false a) ?_ rfl ⟨rfl, ?_⟩
 ·obtain ⟨⟨e0, e1, e2, e3, e4⟩, -⟩ := HX1.out.put 4 (s.extract 0 m) 0 false a;unfold tput at e0 e1 e2 e3 e4;simp [results, Tryz.results158, go_sem, e0, e1, e2, e3, e4, tokV, hne]
 ·exact (((((HB1.out.setCell (by simp) _).setCell (by simp) _).setCell (by simp) _).setCell (by simp) _).setCell (by simp) _).alloc (by simp; omega) _
def longB (s : ByteArray) : Bool := Lib.hasPrefix s.data.toList [60, 61]
def signB (c : Int) : Bool := decide (0 <= Lib.indexByte [61, 59, 43, 45, 42, 47, 40, 41, 44, 60, 37] c.toNat.toUInt8)
theorem long_size {s : ByteArray} (h : longB s = true) : 2 <= s.size := by
 rw [size_toL];unfold longB Lib.hasPrefix at h;exact (List.isPrefixOf_iff_prefix.1 h).length_le
theorem long_any (s : ByteArray) (w : World) : Calls Tryz.prog 155 #[.string s, .string ⟨#[60, 61]⟩] w fun e w' => e = .returned (.bool (longB s)) /\ w' = w := sh_strings_HasPrefix s ⟨#[60, 61]⟩ w
theorem sindex_any (c : Int) (w : World) : Calls Tryz.prog 183 #[.string ⟨#[61, 59, 43, 45, 42, 47, 40, 41, 44, 60, 37]⟩, .int .u8 c] w fun e w' => e = .returned (.int .i64 (Lib.indexByte [61, 59, 43, 45, 42, 47, 40, 41, 44, 60, 37] c.toNat.toUInt8)) /\ w' = w := sh_strings_IndexByte ⟨#[61, 59, 43, 45, 42, 47, 40, 41, 44, 60, 37]⟩ c w
theorem sign_long (s : ByteArray) (a : Int) (w : World) (h : longB s = true) :
 Calls Tryz.prog 161 #[.string s, .int .i64 a] w fun e w' => e = .returned (tokV 3 (s.extract 0 2) 0 false a) /\ Below w.heap.size w w' := by
 have h2 := long_size h;have h2' : (2 : Int) <= (s.size : Int) := by omega
 have HL := Hd (fun w => long_any s w);rw [h] at HL;clear h
 go_enter Tryz.func161, Tryz.ntmps161
 go_wp2_with fail
 refine (HL.out _).mono ?_;rintro e w2 ⟨rfl, h2⟩;subst w2;go_wp2_with fail
 refine bodyPost_ret (v := tokV 3 (s.extract 0 2) 0 false a) (by simp [results, Tryz.results161, go_sem, tokV]) rfl ⟨rfl, (Below.refl w.heap.size w).alloc (Nat.le_refl _) _⟩
theorem sign_gone (s : ByteArray) (a : Int) (w : World) (h : longB s = false) (h0 : 0 < s.size) (hs : signB (bt s 0) = false) :
 Calls Tryz.prog 161 #[.string s, .int .i64 a] w fun e w' => e = .panicked (gone 1 a) /\ Below w.heap.size w w' := by
 have h0' : (0 : Int) < (s.size : Int) := by omega
 have HL := Hd (fun w => long_any s w);rw [h] at HL;have HI := Hd (fun w => sindex_any (s[0].toNat : Int) w);rw [bt_in h0] at hs;have hs := of_decide_eq_false hs;generalize Lib.indexByte [61, 59, 43, 45, 42, 47, 40, 41, 44, 60, 37] ((s[0].toNat : Int)).toNat.toUInt8 = i at *;have hi : i < 0 := by omega
 clear h hs
 go_enter Tryz.func161, Tryz.ntmps161
 go_wp2_with fail
 refine (HL.out _).mono ?_;rintro e w2 ⟨rfl, h2⟩;subst w2;go_wp2_with fail
 refine (HI.out _).mono ?_;rintro e w2 ⟨rfl, h2⟩;subst w2;go_wp2_with fail
 refine (giveUp_any _ _ _).mono ?_;rintro e w2 ⟨rfl, rfl⟩;go_wp2_with fail
 exact ⟨rfl, rfl, (Below.refl w.heap.size w).alloc (Nat.le_refl _) _⟩
theorem sign_one (s : ByteArray) (a : Int) (w : World) (h : longB s = false) (h0 : 0 < s.size) (hs : signB (bt s 0) = true) :
 Calls Tryz.prog 161 #[.string s, .int .i64 a] w fun e w' => e = .returned (tokV 3 (s.extract 0 1) 0 false a) /\ Below w.heap.size w w' := by
 have h0' : (0 : Int) < (s.size : Int) := by omega
 have h1' : (1 : Int) <= (s.size : Int) := by omega
 have HL := Hd (fun w => long_any s w);rw [h] at HL;have HI := Hd (fun w => sindex_any (s[0].toNat : Int) w);rw [bt_in h0] at hs;have hs := of_decide_eq_true hs;generalize Lib.indexByte [61, 59, 43, 45, 42, 47, 40, 41, 44, 60, 37] ((s[0].toNat : Int)).toNat.toUInt8 = i at *;have hi : decide (i < 0) = false := dEf (by omega);clear h
 go_enter Tryz.func161, Tryz.ntmps161
 go_wp2_with fail
 refine (HL.out _).mono ?_;rintro e w2 ⟨rfl, h2⟩;subst w2;go_wp2_with fail
 refine (HI.out _).mono ?_;rintro e w2 ⟨rfl, h2⟩;subst w2;go_wp2_with fail
 refine bodyPost_ret (v := tokV 3 (s.extract 0 1) 0 false a) (by simp [results, Tryz.results161, go_sem, tokV]) rfl ⟨rfl, (Below.refl w.heap.size w).alloc (Nat.le_refl _) _⟩
def Reads (s : ByteArray) (n : Nat) (u : Int) : Prop := ∀ w, Calls Tryz.prog 182 #[.string (s.extract 0 n)] w fun e w' => e = .returned (.tuple #[.int .i64 u, .nilIface]) /\ Below w.heap.size w w'
theorem number_great (s : ByteArray) (a : Int) (n : Nat) (u : Int) (w : World) (hn : SpanIs digB s n) (hr : Reads s n u) (hu : 10000000000 < u) :
 Calls Tryz.prog 160 #[.string s, .int .i64 a] w fun e w' => e = .panicked (gone 3 a) /\ Below w.heap.size w w' := by
 have HN := Hd hn;have hle := hn.1;have HR := Hd hr;have HZ := Hd ((Below.refl w.heap.size w).alloc (Nat.le_refl _) (.cells #[.int .i64 0, .string ByteArray.empty, .int .i64 0, .bool false, .int .i64 0] 94));have HX := Hd (TBox.made w 94 0 ByteArray.empty 0 false 0);clear hn hr
 go_enter Tryz.func160, Tryz.ntmps160
 go_wp2_with fail
 refine (digits_any s _).mono ?_;rintro e w1 ⟨m, rfl, h1, h2⟩;obtain rfl := h1.unique HN.out;have HB1 := Hd (HZ.out.trans (h2.mono HZ.out.size));have HX1 := Hd (HX.out.below h2);clear h1 h2;have hle' : (m : Int) <= (s.size : Int) := by omega
 go_wp2_with fail
 refine (HR.out _).mono ?_;rintro e w2 ⟨rfl, h2⟩;have HB2 := Hd (HB1.out.trans (h2.mono HB1.out.size));have HX2 := Hd (HX1.out.below h2);clear h2 HX1 HX;go_wp2_with fail
 refine (giveUp_any _ _ _).mono ?_;rintro e w3 ⟨rfl, rfl⟩;go_wp2_with fail
 exact ⟨rfl, rfl, HB2.out⟩
theorem number_zero (s : ByteArray) (a : Int) (n : Nat) (u : Int) (w : World) (hn : SpanIs digB s n) (hr : Reads s n u) (hu : u <= 10000000000) (h0 : bt s 0 = 48) (hn1 : 1 < n) :
 Calls Tryz.prog 160 #[.string s, .int .i64 a] w fun e w' => e = .panicked (gone 3 a) /\ Below w.heap.size w w' := by
 have hs0 : 0 < s.size := by have := hn.1; omega
 have hs0' : (0 : Int) < (s.size : Int) := by omega
 have huB : decide ((10000000000 : Int) < u) = false := dEf (by omega);have hb : (s[0].toNat : Int) = 48 := by rw [<- bt_in hs0]; exact h0
 have hn1' : (1 : Int) < (n : Int) := by omega
 have HN := Hd hn;have hle := hn.1;have HR := Hd hr;have HZ := Hd ((Below.refl w.heap.size w).alloc (Nat.le_refl _) (.cells #[.int .i64 0, .string ByteArray.empty, .int .i64 0, .bool false, .int .i64 0] 94));have HX := Hd (TBox.made w 94 0 ByteArray.empty 0 false 0);clear hn hr
 go_enter Tryz.func160, Tryz.ntmps160
 go_wp2_with fail
 refine (digits_any s _).mono ?_;rintro e w1 ⟨m, rfl, h1, h2⟩;obtain rfl := h1.unique HN.out;have HB1 := Hd (HZ.out.trans (h2.mono HZ.out.size));have HX1 := Hd (HX.out.below h2);clear h1 h2;have hle' : (m : Int) <= (s.size : Int) := by omega
 go_wp2_with fail
 refine (HR.out _).mono ?_;rintro e w2 ⟨rfl, h2⟩;have HB2 := Hd (HB1.out.trans (h2.mono HB1.out.size));have HX2 := Hd (HX1.out.below h2);clear h2 HX1 HX;go_wp2_with fail
 refine (giveUp_any _ _ _).mono ?_;rintro e w3 ⟨rfl, rfl⟩;go_wp2_with fail
 exact ⟨rfl, rfl, HB2.out⟩
theorem dot_at (s : ByteArray) (a : Nat) (b : Bool) (h : decide (bt s a = 46) = b) (w : World) :
 Calls Tryz.prog 155 #[.string (s.extract a s.size), .string ⟨#[46]⟩] w fun e w' => e = .returned (.bool b) /\ w' = w := by
 have := sh_strings_HasPrefix (s.extract a s.size) ⟨#[46]⟩ w;rw [show (⟨#[46]⟩ : ByteArray).data.toList = [46] from rfl, prefix_byte, bt_suffix, Nat.add_zero, show (((46 : UInt8).toNat : Nat) : Int) = 46 from rfl, h] at this;exact this
theorem number_whole (s : ByteArray) (a : Int) (n : Nat) (u : Int) (w : World) (hn : SpanIs digB s n) (hr : Reads s n u) (hu0 : 0 <= u) (hu : u <= 10000000000) (hn0 : 0 < n) (h0 : bt s 0 ≠ 48) (hp : bt s n ≠ 46) :
 Calls Tryz.prog 160 #[.string s, .int .i64 a] w fun e w' => e = .returned (tokV 2 (s.extract 0 n) (100 * u) false a) /\ Below w.heap.size w w' := by
 have hs0 : 0 < s.size := by have := hn.1; omega
 have hs0' : (0 : Int) < (s.size : Int) := by omega
 have huB : decide ((10000000000 : Int) < u) = false := dEf (by omega);have hb : ((s[0].toNat : Int) == 48) = false := by rw [<- bt_in hs0]; simpa using h0
 have HD := Hd (dot_at s n false (dEf hp));clear hp;have HN := Hd hn;have hle := hn.1;have HR := Hd hr;have HZ := Hd ((Below.refl w.heap.size w).alloc (Nat.le_refl _) (.cells #[.int .i64 0, .string ByteArray.empty, .int .i64 0, .bool false, .int .i64 0] 94));have HX := Hd (TBox.made w 94 0 ByteArray.empty 0 false 0);clear hn hr
 go_enter Tryz.func160, Tryz.ntmps160
 go_wp2_with fail
 refine (digits_any s _).mono ?_;rintro e w1 ⟨m, rfl, h1, h2⟩;obtain rfl := h1.unique HN.out;have HB1 := Hd (HZ.out.trans (h2.mono HZ.out.size));have HX1 := Hd (HX.out.below h2);clear h1 h2;have hle' : (m : Int) <= (s.size : Int) := by omega
 go_wp2_with fail
 refine (HR.out _).mono ?_;rintro e w2 ⟨rfl, h2⟩;have HB2 := Hd (HB1.out.trans (h2.mono HB1.out.size));have HX2 := Hd (HX1.out.below h2);have hne : w.heap.size < w2.heap.size := by
  have h3 := h2.size
  by_cases hlt : w.heap.size < w2.heap.size
  ·exact hlt
  ·have := HX2.out.1.1;have hz : w2.heap[w.heap.size]? = none := Array.getElem?_eq_none (by omega);simp [World.cell?, hz] at this
 clear h2 HX1 HX;obtain ⟨⟨c0, c1, c2, c3, c4⟩, z0, z1, z2, z3, z4⟩ := HX2.out;go_wp2_with fail
 refine (HD.out _).mono ?_;rintro e w3 ⟨rfl, h3⟩;subst w3;go_wp2_with fail
 refine bodyPost_ret (v := tokV 2 (s.extract 0 m) (100 * u) false a) ?_ rfl ⟨rfl, ?_⟩
 ·obtain ⟨⟨e0, e1, e2, e3, e4⟩, -⟩ := HX2.out.put 2 (s.extract 0 m) (100 * u) false a;unfold tput at e0 e1 e2 e3 e4;simp [results, Tryz.results160, go_sem, e0, e1, e2, e3, e4, tokV, hne]
 ·exact (((((HB2.out.setCell (by simp) _).setCell (by simp) _).setCell (by simp) _).setCell (by simp) _).setCell (by simp) _).alloc (by simp; omega) _
theorem number_wholeZ (s : ByteArray) (a : Int) (n : Nat) (u : Int) (w : World) (hn : SpanIs digB s n) (hr : Reads s n u) (hu0 : 0 <= u) (hu : u <= 10000000000) (hn0 : 0 < n) (h0 : bt s 0 = 48) (h1B : decide ((1 : Int) < (n : Int)) = false) (hp : bt s n ≠ 46) :
 Calls Tryz.prog 160 #[.string s, .int .i64 a] w fun e w' => e = .returned (tokV 2 (s.extract 0 n) (100 * u) false a) /\ Below w.heap.size w w' := by
 have hs0 : 0 < s.size := by have := hn.1; omega
 have hs0' : (0 : Int) < (s.size : Int) := by omega
 have huB : decide ((10000000000 : Int) < u) = false := dEf (by omega);have hb : (s[0].toNat : Int) = 48 := by rw [<- bt_in hs0]; exact h0
 have HD := Hd (dot_at s n false (dEf hp));clear hp;have HN := Hd hn;have hle := hn.1;have HR := Hd hr;have HZ := Hd ((Below.refl w.heap.size w).alloc (Nat.le_refl _) (.cells #[.int .i64 0, .string ByteArray.empty, .int .i64 0, .bool false, .int .i64 0] 94));have HX := Hd (TBox.made w 94 0 ByteArray.empty 0 false 0);clear hn hr
 go_enter Tryz.func160, Tryz.ntmps160
 go_wp2_with fail
 refine (digits_any s _).mono ?_;rintro e w1 ⟨m, rfl, h1, h2⟩;obtain rfl := h1.unique HN.out;have HB1 := Hd (HZ.out.trans (h2.mono HZ.out.size));have HX1 := Hd (HX.out.below h2);clear h1 h2;have hle' : (m : Int) <= (s.size : Int) := by omega
 go_wp2_with fail
 refine (HR.out _).mono ?_;rintro e w2 ⟨rfl, h2⟩;have HB2 := Hd (HB1.out.trans (h2.mono HB1.out.size));have HX2 := Hd (HX1.out.below h2);have hne : w.heap.size < w2.heap.size := by
  have h3 := h2.size
  by_cases hlt : w.heap.size < w2.heap.size
  ·exact hlt
  ·have := HX2.out.1.1;have hz : w2.heap[w.heap.size]? = none := Array.getElem?_eq_none (by omega);simp [World.cell?, hz] at this
 clear h2 HX1 HX;obtain ⟨⟨c0, c1, c2, c3, c4⟩, z0, z1, z2, z3, z4⟩ := HX2.out;go_wp2_with fail
 refine (HD.out _).mono ?_;rintro e w3 ⟨rfl, h3⟩;subst w3;go_wp2_with fail
 refine bodyPost_ret (v := tokV 2 (s.extract 0 m) (100 * u) false a) ?_ rfl ⟨rfl, ?_⟩
 ·obtain ⟨⟨e0, e1, e2, e3, e4⟩, -⟩ := HX2.out.put 2 (s.extract 0 m) (100 * u) false a;unfold tput at e0 e1 e2 e3 e4;simp [results, Tryz.results160, go_sem, e0, e1, e2, e3, e4, tokV, hne]
 ·exact (((((HB2.out.setCell (by simp) _).setCell (by simp) _).setCell (by simp) _).setCell (by simp) _).setCell (by simp) _).alloc (by simp; omega) _
theorem number_short (s : ByteArray) (a : Int) (n k : Nat) (u : Int) (w : World) (hn : SpanIs digB s n) (hr : Reads s n u) (hu0 : 0 <= u) (hu : u <= 10000000000) (hn0 : 0 < n) (h0 : bt s 0 ≠ 48) (hp : bt s n = 46) (hk : SpanIs digB (s.extract (n + 1) s.size) k) (hk2 : k < 2) (ha : 0 <= a) (has : a + s.size <= 140737488351232) :
 Calls Tryz.prog 160 #[.string s, .int .i64 a] w fun e w' => e = .panicked (gone 1 (a + n)) /\ Below w.heap.size w w' := by
 have hs0 : 0 < s.size := by have := hn.1; omega
 have hs0' : (0 : Int) < (s.size : Int) := by omega
 have huB : decide ((10000000000 : Int) < u) = false := dEf (by omega);have hb : ((s[0].toNat : Int) == 48) = false := by rw [<- bt_in hs0]; simpa using h0
 have HD := Hd (dot_at s n true (decide_eq_true hp));have HK := Hd hk;have hnlt : n < s.size := by
  by_cases h : n < s.size
  ·exact h
  ·rw [bt_out h] at hp; omega
 have hnlt' : (n : Int) + 1 <= (s.size : Int) := by omega
 clear hp hk;have HN := Hd hn;have hle := hn.1;have HR := Hd hr;have HZ := Hd ((Below.refl w.heap.size w).alloc (Nat.le_refl _) (.cells #[.int .i64 0, .string ByteArray.empty, .int .i64 0, .bool false, .int .i64 0] 94));have HX := Hd (TBox.made w 94 0 ByteArray.empty 0 false 0);clear hn hr
 go_enter Tryz.func160, Tryz.ntmps160
 go_wp2_with fail
 refine (digits_any s _).mono ?_;rintro e w1 ⟨m, rfl, h1, h2⟩;obtain rfl := h1.unique HN.out;have HB1 := Hd (HZ.out.trans (h2.mono HZ.out.size));have HX1 := Hd (HX.out.below h2);clear h1 h2;have hle' : (m : Int) <= (s.size : Int) := by omega
 go_wp2_with fail
 refine (HR.out _).mono ?_;rintro e w2 ⟨rfl, h2⟩;have HB2 := Hd (HB1.out.trans (h2.mono HB1.out.size));have HX2 := Hd (HX1.out.below h2);have hne : w.heap.size < w2.heap.size := by
  have h3 := h2.size
  by_cases hlt : w.heap.size < w2.heap.size
  ·exact hlt
  ·have := HX2.out.1.1;have hz : w2.heap[w.heap.size]? = none := Array.getElem?_eq_none (by omega);simp [World.cell?, hz] at this
 clear h2 HX1 HX;obtain ⟨⟨c0, c1, c2, c3, c4⟩, z0, z1, z2, z3, z4⟩ := HX2.out;go_wp2_with fail
 refine (HD.out _).mono ?_;rintro e w3 ⟨rfl, h3⟩;subst w3;go_wp2_with fail
 refine (digits_any _ _).mono ?_;rintro e w3 ⟨k', rfl, h1, h2⟩;obtain rfl := h1.unique HK.out;have HB3 := Hd ((HB2.out.alloc (by omega) (.cells #[.int .i64 2, .string (s.extract 0 m), .int .i64 (100 * u), .bool false, .int .i64 a] 94)).trans (h2.mono (by simp; omega)));clear h1 h2;have hk2' : (k' : Int) < 2 := by omega
 go_wp2_with fail
 refine (giveUp_any _ _ _).mono ?_;rintro e w4 ⟨rfl, rfl⟩;go_wp2_with fail
 exact ⟨rfl, rfl, HB3.out⟩
theorem number_shortZ (s : ByteArray) (a : Int) (n k : Nat) (u : Int) (w : World) (hn : SpanIs digB s n) (hr : Reads s n u) (hu0 : 0 <= u) (hu : u <= 10000000000) (hn0 : 0 < n) (h0 : bt s 0 = 48) (h1B : decide ((1 : Int) < (n : Int)) = false) (hp : bt s n = 46) (hk : SpanIs digB (s.extract (n + 1) s.size) k) (hk2 : k < 2) (ha : 0 <= a) (has : a + s.size <= 140737488351232) :
 Calls Tryz.prog 160 #[.string s, .int .i64 a] w fun e w' => e = .panicked (gone 1 (a + n)) /\ Below w.heap.size w w' := by
 have hs0 : 0 < s.size := by have := hn.1; omega
 have hs0' : (0 : Int) < (s.size : Int) := by omega
 have huB : decide ((10000000000 : Int) < u) = false := dEf (by omega);have hb : (s[0].toNat : Int) = 48 := by rw [<- bt_in hs0]; exact h0
 have HD := Hd (dot_at s n true (decide_eq_true hp));have HK := Hd hk;have hnlt : n < s.size := by
  by_cases h : n < s.size
  ·exact h
  ·rw [bt_out h] at hp; omega
 have hnlt' : (n : Int) + 1 <= (s.size : Int) := by omega
 clear hp hk;have HN := Hd hn;have hle := hn.1;have HR := Hd hr;have HZ := Hd ((Below.refl w.heap.size w).alloc (Nat.le_refl _) (.cells #[.int .i64 0, .string ByteArray.empty, .int .i64 0, .bool false, .int .i64 0] 94));have HX := Hd (TBox.made w 94 0 ByteArray.empty 0 false 0);clear hn hr
 go_enter Tryz.func160, Tryz.ntmps160
 go_wp2_with fail
 refine (digits_any s _).mono ?_;rintro e w1 ⟨m, rfl, h1, h2⟩;obtain rfl := h1.unique HN.out;have HB1 := Hd (HZ.out.trans (h2.mono HZ.out.size));have HX1 := Hd (HX.out.below h2);clear h1 h2;have hle' : (m : Int) <= (s.size : Int) := by omega
 go_wp2_with fail
 refine (HR.out _).mono ?_;rintro e w2 ⟨rfl, h2⟩;have HB2 := Hd (HB1.out.trans (h2.mono HB1.out.size));have HX2 := Hd (HX1.out.below h2);have hne : w.heap.size < w2.heap.size := by
  have h3 := h2.size
  by_cases hlt : w.heap.size < w2.heap.size
  ·exact hlt
  ·have := HX2.out.1.1;have hz : w2.heap[w.heap.size]? = none := Array.getElem?_eq_none (by omega);simp [World.cell?, hz] at this
 clear h2 HX1 HX;obtain ⟨⟨c0, c1, c2, c3, c4⟩, z0, z1, z2, z3, z4⟩ := HX2.out;go_wp2_with fail
 refine (HD.out _).mono ?_;rintro e w3 ⟨rfl, h3⟩;subst w3;go_wp2_with fail
 refine (digits_any _ _).mono ?_;rintro e w3 ⟨k', rfl, h1, h2⟩;obtain rfl := h1.unique HK.out;have HB3 := Hd ((HB2.out.alloc (by omega) (.cells #[.int .i64 2, .string (s.extract 0 m), .int .i64 (100 * u), .bool false, .int .i64 a] 94)).trans (h2.mono (by simp; omega)));clear h1 h2;have hk2' : (k' : Int) < 2 := by omega
 go_wp2_with fail
 refine (giveUp_any _ _ _).mono ?_;rintro e w4 ⟨rfl, rfl⟩;go_wp2_with fail
 exact ⟨rfl, rfl, HB3.out⟩
theorem TBox.two {w : World} {g : Nat} {k : Int} {s : ByteArray} {n : Int} {p : Bool} {a : Int} (h : TBox w g k s n p a) (p' : Bool) (s' : ByteArray) :
 TBox ((w.setCell ⟨g, 3, none⟩ (.bool p')).setCell ⟨g, 1, none⟩ (.string s')) g k s' n p' a := by
 obtain ⟨⟨a0, a1, a2, a3, a4⟩, b0, b1, b2, b3, b4⟩ := h;have ne : ∀ i j : Nat, i ≠ j -> (⟨g, i, none⟩ : Addr) ≠ ⟨g, j, none⟩ := fun i j h e => h (by injection e)
 refine ⟨⟨?_, ?_, ?_, ?_, ?_⟩, ?_, ?_, ?_, ?_, ?_⟩
 ·rw [World.cell?_setCell_other (h := ne 1 0 (by decide)), World.cell?_setCell_other (h := ne 3 0 (by decide))]; exact a0
 ·exact World.cell?_setCell_same _ _ _ (by rw [World.cell?_setCell_other (h := ne 3 1 (by decide))]; exact a1)
 ·rw [World.cell?_setCell_other (h := ne 1 2 (by decide)), World.cell?_setCell_other (h := ne 3 2 (by decide))]; exact a2
 ·rw [World.cell?_setCell_other (h := ne 1 3 (by decide))]; exact World.cell?_setCell_same _ _ _ a3
 ·rw [World.cell?_setCell_other (h := ne 1 4 (by decide)), World.cell?_setCell_other (h := ne 3 4 (by decide))]; exact a4
 all_goals (simp only [World.frozen?_setCell]; assumption)
theorem TBox.away {w : World} {g : Nat} {k : Int} {s : ByteArray} {n : Int} {p : Bool} {a : Int} (h : TBox w g k s n p a) {b : Nat} (hb : g < b) (o : Nat) (v : Value) : TBox (w.setCell ⟨b, o, none⟩ v) g k s n p a := by
 obtain ⟨⟨a0, a1, a2, a3, a4⟩, b0, b1, b2, b3, b4⟩ := h;have ne : ∀ j : Nat, (⟨b, o, none⟩ : Addr) ≠ ⟨g, j, none⟩ := fun j e => by injection e; omega
 refine ⟨⟨?_, ?_, ?_, ?_, ?_⟩, ?_, ?_, ?_, ?_, ?_⟩
 ·rw [World.cell?_setCell_other (h := ne 0)]; exact a0
 ·rw [World.cell?_setCell_other (h := ne 1)]; exact a1
 ·rw [World.cell?_setCell_other (h := ne 2)]; exact a2
 ·rw [World.cell?_setCell_other (h := ne 3)]; exact a3
 ·rw [World.cell?_setCell_other (h := ne 4)]; exact a4
 all_goals (simp only [World.frozen?_setCell]; assumption)
theorem TBox.num {w : World} {g : Nat} {k : Int} {s : ByteArray} {n : Int} {p : Bool} {a : Int} (h : TBox w g k s n p a) (n' : Int) : TBox (w.setCell ⟨g, 2, none⟩ (.int .i64 n')) g k s n' p a := by
 obtain ⟨⟨a0, a1, a2, a3, a4⟩, b0, b1, b2, b3, b4⟩ := h;have ne : ∀ j : Nat, 2 ≠ j -> (⟨g, 2, none⟩ : Addr) ≠ ⟨g, j, none⟩ := fun j h e => h (by injection e)
 refine ⟨⟨?_, ?_, ?_, ?_, ?_⟩, ?_, ?_, ?_, ?_, ?_⟩
 ·rw [World.cell?_setCell_other (h := ne 0 (by decide))]; exact a0
 ·rw [World.cell?_setCell_other (h := ne 1 (by decide))]; exact a1
 ·exact World.cell?_setCell_same _ _ _ a2
 ·rw [World.cell?_setCell_other (h := ne 3 (by decide))]; exact a3
 ·rw [World.cell?_setCell_other (h := ne 4 (by decide))]; exact a4
 all_goals (simp only [World.frozen?_setCell]; assumption)
theorem TBox.drawn {w : World} {g : Nat} {k : Int} {s : ByteArray} {n : Int} {p : Bool} {a : Int} (h : TBox w g k s n p a) : TBox w.drew g k s n p a := h
theorem number_point (s : ByteArray) (a : Int) (n k : Nat) (u : Int) (w : World) (hn : SpanIs digB s n) (hr : Reads s n u) (hu0 : 0 <= u) (hu : u <= 10000000000) (hn0 : 0 < n) (h0 : bt s 0 ≠ 48) (hp : bt s n = 46) (hk : SpanIs digB (s.extract (n + 1) s.size) k) (hk2 : 2 <= k) (ha : 0 <= a) (has : a + s.size <= 140737488351232) (hv : 100 * u + (10 * (bt s (n + 1) - 48) + (bt s (n + 2) - 48)) <= 1000000000000) :
 Calls Tryz.prog 160 #[.string s, .int .i64 a] w fun e w' => e = .returned (tokV 2 (s.extract 0 (n + 3)) (100 * u + (10 * (bt s (n + 1) - 48) + (bt s (n + 2) - 48))) true a) /\ Below w.heap.size w w' := by
 have hs0 : 0 < s.size := by have := hn.1; omega
 have hs0' : (0 : Int) < (s.size : Int) := by omega
 have huB : decide ((10000000000 : Int) < u) = false := dEf (by omega);have hb : ((s[0].toNat : Int) == 48) = false := by rw [<- bt_in hs0]; simpa using h0
 have HD := Hd (dot_at s n true (decide_eq_true hp));have HK := Hd hk;have hk1 := hk.1;rw [ByteArray.size_extract] at hk1;have hnlt : n + 3 <= s.size := by omega
 have hnlt' : (n : Int) + 3 <= (s.size : Int) := by omega
 have hi1 : (n : Int) + 1 < (s.size : Int) := by omega
 have hi2 : (n : Int) + 2 < (s.size : Int) := by omega
 have hq1 : (0 : Int) <= (n : Int) + 1 := by omega
 have hq2 : (0 : Int) <= (n : Int) + 2 := by omega
 have hr1 : ((n : Int) + 1).toNat = n + 1 := by omega
 have hr2 : ((n : Int) + 2).toNat = n + 2 := by omega
 have hj1 : n + 1 < s.size := by omega
 have hj2 : n + 2 < s.size := by omega
 have hd1 := of_decide_eq_true (hk.2.1 0 (by omega));have hd2 := of_decide_eq_true (hk.2.1 1 (by omega));rw [bt_suffix] at hd1 hd2;rw [Nat.add_zero] at hd1;rw [show n + 1 + 1 = n + 2 from rfl] at hd2;have hb1 : bt s (n + 1) = (s[n + 1].toNat : Int) := bt_in (by omega);have hb2 : bt s (n + 2) = (s[n + 2].toNat : Int) := bt_in (by omega);rw [hb1] at hd1 hv;rw [hb2] at hd2 hv
 try rw [hb1, hb2]
 clear hp hk hb1 hb2 hk1;have HN := Hd hn;have hle := hn.1;have HR := Hd hr;have HZ := Hd ((Below.refl w.heap.size w).alloc (Nat.le_refl _) (.cells #[.int .i64 0, .string ByteArray.empty, .int .i64 0, .bool false, .int .i64 0] 94));have HX := Hd (TBox.made w 94 0 ByteArray.empty 0 false 0);clear hn hr
 go_enter Tryz.func160, Tryz.ntmps160
 go_wp2_with fail
 refine (digits_any s _).mono ?_;rintro e w1 ⟨m, rfl, h1, h2⟩;obtain rfl := h1.unique HN.out;have HB1 := Hd (HZ.out.trans (h2.mono HZ.out.size));have HX1 := Hd (HX.out.below h2);clear h1 h2;have hle' : (m : Int) <= (s.size : Int) := by omega
 go_wp2_with fail
 refine (HR.out _).mono ?_;rintro e w2 ⟨rfl, h2⟩;have HB2 := Hd (HB1.out.trans (h2.mono HB1.out.size));have HX2 := Hd (HX1.out.below h2);have hne : w.heap.size < w2.heap.size := by
  have h3 := h2.size
  by_cases hlt : w.heap.size < w2.heap.size
  ·exact hlt
  ·have := HX2.out.1.1;have hz : w2.heap[w.heap.size]? = none := Array.getElem?_eq_none (by omega);simp [World.cell?, hz] at this
 clear h2 HX1 HX;obtain ⟨⟨c0, c1, c2, c3, c4⟩, z0, z1, z2, z3, z4⟩ := HX2.out;have HY := Hd (TBox.made w2 94 2 (s.extract 0 m) (100 * u) false a);have HX3 := Hd (HX2.out.below ((Below.refl w2.heap.size w2).alloc (Nat.le_refl _) (.cells #[.int .i64 2, .string (s.extract 0 m), .int .i64 (100 * u), .bool false, .int .i64 a] 94)));go_wp2_with fail
 refine (HD.out _).mono ?_;rintro e w3 ⟨rfl, h3⟩;subst w3;go_wp2_with fail
 refine (digits_any _ _).mono ?_;rintro e w3 ⟨k', rfl, h1, h2⟩;obtain rfl := h1.unique HK.out;have HB3 := Hd ((HB2.out.alloc (by omega) (.cells #[.int .i64 2, .string (s.extract 0 m), .int .i64 (100 * u), .bool false, .int .i64 a] 94)).trans (h2.mono (by simp; omega)));have HY3 := Hd (HY.out.below h2);have HX4 := Hd (HX3.out.below h2);clear h1 h2 c0 c1 c2 c3 c4 z0 z1 z2 z3 z4 HX2 HX3 HY;have hk2B : decide ((k' : Int) < 2) = false := dEf (by omega);obtain ⟨⟨c0, c1, c2, c3, c4⟩, z0, z1, z2, z3, z4⟩ := HX4.out;obtain ⟨⟨y0, y1, y2, y3, y4⟩, x0, x1, x2, x3, x4⟩ := HY3.out;have HY4 := Hd (HY3.out.two true (s.extract 0 (m + 3)));have HX5 := Hd ((HX4.out.away hne 3 (.bool true)).away hne 1 (.string (s.extract 0 (m + 3))));have HB4 : Hid (Below w.heap.size w ((w3.setCell ⟨w2.heap.size, 3, none⟩ (.bool true)).setCell ⟨w2.heap.size, 1, none⟩ (.string (s.extract 0 (m + 3))))) := (HB3.out.setCell (by simp; omega) _).setCell (by simp; omega) _;go_wp2_with fail
 clear c0 c1 c2 c3 c4 z0 z1 z2 z3 z4 y0 y1 y2 y3 y4 x0 x1 x2 x3 x4;generalize (w3.setCell ⟨w2.heap.size, 3, none⟩ (.bool true)).setCell ⟨w2.heap.size, 1, none⟩ (.string (s.extract 0 (m + 3))) = w4 at *;obtain ⟨⟨c0, c1, c2, c3, c4⟩, z0, z1, z2, z3, z4⟩ := HX5.out;obtain ⟨⟨y0, y1, y2, y3, y4⟩, x0, x1, x2, x3, x4⟩ := HY4.out
 go_region
 generalize hV : 100 * u + (10 * ((s[m + 1].toNat : Int) - 48) + ((s[m + 2].toNat : Int) - 48)) = V at *;have HY5 := Hd ((HY4.out.num V).drawn);have HX6 := Hd ((HX5.out.away hne 2 (.int .i64 V)).drawn);have HB5 : Hid (Below w.heap.size w (w4.setCell ⟨w2.heap.size, 2, none⟩ (.int .i64 V)).drew) := (HB4.out.setCell (by simp; omega) _).drew;clear c0 c1 c2 c3 c4 z0 z1 z2 z3 z4 y0 y1 y2 y3 y4 x0 x1 x2 x3 x4;generalize (w4.setCell ⟨w2.heap.size, 2, none⟩ (.int .i64 V)).drew = w5 at *;obtain ⟨⟨c0, c1, c2, c3, c4⟩, z0, z1, z2, z3, z4⟩ := HX6.out;obtain ⟨⟨y0, y1, y2, y3, y4⟩, x0, x1, x2, x3, x4⟩ := HY5.out;have hvB : decide ((1000000000000 : Int) < V) = false := dEf (by omega);go_wp2_with fail
 refine bodyPost_ret (v := tokV 2 (s.extract 0 (m + 3)) V true a) ?_ rfl ⟨by rw [hV], ?_⟩
 ·obtain ⟨⟨e0, e1, e2, e3, e4⟩, -⟩ := HX6.out.put 2 (s.extract 0 (m + 3)) V true a;unfold tput at e0 e1 e2 e3 e4;simp [results, Tryz.results160, go_sem, e0, e1, e2, e3, e4, tokV]
 ·exact ((((HB5.out.setCell (by simp) _).setCell (by simp) _).setCell (by simp) _).setCell (by simp) _).setCell (by simp) _
theorem number_pointZ (s : ByteArray) (a : Int) (n k : Nat) (u : Int) (w : World) (hn : SpanIs digB s n) (hr : Reads s n u) (hu0 : 0 <= u) (hu : u <= 10000000000) (hn0 : 0 < n) (h0 : bt s 0 = 48) (h1B : decide ((1 : Int) < (n : Int)) = false) (hp : bt s n = 46) (hk : SpanIs digB (s.extract (n + 1) s.size) k) (hk2 : 2 <= k) (ha : 0 <= a) (has : a + s.size <= 140737488351232) (hv : 100 * u + (10 * (bt s (n + 1) - 48) + (bt s (n + 2) - 48)) <= 1000000000000) :
 Calls Tryz.prog 160 #[.string s, .int .i64 a] w fun e w' => e = .returned (tokV 2 (s.extract 0 (n + 3)) (100 * u + (10 * (bt s (n + 1) - 48) + (bt s (n + 2) - 48))) true a) /\ Below w.heap.size w w' := by
 have hs0 : 0 < s.size := by have := hn.1; omega
 have hs0' : (0 : Int) < (s.size : Int) := by omega
 have huB : decide ((10000000000 : Int) < u) = false := dEf (by omega);have hb : (s[0].toNat : Int) = 48 := by rw [<- bt_in hs0]; exact h0
 have HD := Hd (dot_at s n true (decide_eq_true hp));have HK := Hd hk;have hk1 := hk.1;rw [ByteArray.size_extract] at hk1;have hnlt : n + 3 <= s.size := by omega
 have hnlt' : (n : Int) + 3 <= (s.size : Int) := by omega
 have hi1 : (n : Int) + 1 < (s.size : Int) := by omega
 have hi2 : (n : Int) + 2 < (s.size : Int) := by omega
 have hq1 : (0 : Int) <= (n : Int) + 1 := by omega
 have hq2 : (0 : Int) <= (n : Int) + 2 := by omega
 have hr1 : ((n : Int) + 1).toNat = n + 1 := by omega
 have hr2 : ((n : Int) + 2).toNat = n + 2 := by omega
 have hj1 : n + 1 < s.size := by omega
 have hj2 : n + 2 < s.size := by omega
 have hd1 := of_decide_eq_true (hk.2.1 0 (by omega));have hd2 := of_decide_eq_true (hk.2.1 1 (by omega));rw [bt_suffix] at hd1 hd2;rw [Nat.add_zero] at hd1;rw [show n + 1 + 1 = n + 2 from rfl] at hd2;have hb1 : bt s (n + 1) = (s[n + 1].toNat : Int) := bt_in (by omega);have hb2 : bt s (n + 2) = (s[n + 2].toNat : Int) := bt_in (by omega);rw [hb1] at hd1 hv;rw [hb2] at hd2 hv
 try rw [hb1, hb2]
 clear hp hk hb1 hb2 hk1;have HN := Hd hn;have hle := hn.1;have HR := Hd hr;have HZ := Hd ((Below.refl w.heap.size w).alloc (Nat.le_refl _) (.cells #[.int .i64 0, .string ByteArray.empty, .int .i64 0, .bool false, .int .i64 0] 94));have HX := Hd (TBox.made w 94 0 ByteArray.empty 0 false 0);clear hn hr
 go_enter Tryz.func160, Tryz.ntmps160
 go_wp2_with fail
 refine (digits_any s _).mono ?_;rintro e w1 ⟨m, rfl, h1, h2⟩;obtain rfl := h1.unique HN.out;have HB1 := Hd (HZ.out.trans (h2.mono HZ.out.size));have HX1 := Hd (HX.out.below h2);clear h1 h2;have hle' : (m : Int) <= (s.size : Int) := by omega
 go_wp2_with fail
 refine (HR.out _).mono ?_;rintro e w2 ⟨rfl, h2⟩;have HB2 := Hd (HB1.out.trans (h2.mono HB1.out.size));have HX2 := Hd (HX1.out.below h2);have hne : w.heap.size < w2.heap.size := by
  have h3 := h2.size
  by_cases hlt : w.heap.size < w2.heap.size
  ·exact hlt
  ·have := HX2.out.1.1;have hz : w2.heap[w.heap.size]? = none := Array.getElem?_eq_none (by omega);simp [World.cell?, hz] at this
 clear h2 HX1 HX;obtain ⟨⟨c0, c1, c2, c3, c4⟩, z0, z1, z2, z3, z4⟩ := HX2.out;have HY := Hd (TBox.made w2 94 2 (s.extract 0 m) (100 * u) false a);have HX3 := Hd (HX2.out.below ((Below.refl w2.heap.size w2).alloc (Nat.le_refl _) (.cells #[.int .i64 2, .string (s.extract 0 m), .int .i64 (100 * u), .bool false, .int .i64 a] 94)));go_wp2_with fail
 refine (HD.out _).mono ?_;rintro e w3 ⟨rfl, h3⟩;subst w3;go_wp2_with fail
 refine (digits_any _ _).mono ?_;rintro e w3 ⟨k', rfl, h1, h2⟩;obtain rfl := h1.unique HK.out;have HB3 := Hd ((HB2.out.alloc (by omega) (.cells #[.int .i64 2, .string (s.extract 0 m), .int .i64 (100 * u), .bool false, .int .i64 a] 94)).trans (h2.mono (by simp; omega)));have HY3 := Hd (HY.out.below h2);have HX4 := Hd (HX3.out.below h2);clear h1 h2 c0 c1 c2 c3 c4 z0 z1 z2 z3 z4 HX2 HX3 HY;have hk2B : decide ((k' : Int) < 2) = false := dEf (by omega);obtain ⟨⟨c0, c1, c2, c3, c4⟩, z0, z1, z2, z3, z4⟩ := HX4.out;obtain ⟨⟨y0, y1, y2, y3, y4⟩, x0, x1, x2, x3, x4⟩ := HY3.out;have HY4 := Hd (HY3.out.two true (s.extract 0 (m + 3)));have HX5 := Hd ((HX4.out.away hne 3 (.bool true)).away hne 1 (.string (s.extract 0 (m + 3))));have HB4 : Hid (Below w.heap.size w ((w3.setCell ⟨w2.heap.size, 3, none⟩ (.bool true)).setCell ⟨w2.heap.size, 1, none⟩ (.string (s.extract 0 (m + 3))))) := (HB3.out.setCell (by simp; omega) _).setCell (by simp; omega) _;go_wp2_with fail
 clear c0 c1 c2 c3 c4 z0 z1 z2 z3 z4 y0 y1 y2 y3 y4 x0 x1 x2 x3 x4;generalize (w3.setCell ⟨w2.heap.size, 3, none⟩ (.bool true)).setCell ⟨w2.heap.size, 1, none⟩ (.string (s.extract 0 (m + 3))) = w4 at *;obtain ⟨⟨c0, c1, c2, c3, c4⟩, z0, z1, z2, z3, z4⟩ := HX5.out;obtain ⟨⟨y0, y1, y2, y3, y4⟩, x0, x1, x2, x3, x4⟩ := HY4.out
 go_region
 generalize hV : 100 * u + (10 * ((s[m + 1].toNat : Int) - 48) + ((s[m + 2].toNat : Int) - 48)) = V at *;have HY5 := Hd ((HY4.out.num V).drawn);have HX6 := Hd ((HX5.out.away hne 2 (.int .i64 V)).drawn);have HB5 : Hid (Below w.heap.size w (w4.setCell ⟨w2.heap.size, 2, none⟩ (.int .i64 V)).drew) := (HB4.out.setCell (by simp; omega) _).drew;clear c0 c1 c2 c3 c4 z0 z1 z2 z3 z4 y0 y1 y2 y3 y4 x0 x1 x2 x3 x4;generalize (w4.setCell ⟨w2.heap.size, 2, none⟩ (.int .i64 V)).drew = w5 at *;obtain ⟨⟨c0, c1, c2, c3, c4⟩, z0, z1, z2, z3, z4⟩ := HX6.out;obtain ⟨⟨y0, y1, y2, y3, y4⟩, x0, x1, x2, x3, x4⟩ := HY5.out;have hvB : decide ((1000000000000 : Int) < V) = false := dEf (by omega);go_wp2_with fail
 refine bodyPost_ret (v := tokV 2 (s.extract 0 (m + 3)) V true a) ?_ rfl ⟨by rw [hV], ?_⟩
 ·obtain ⟨⟨e0, e1, e2, e3, e4⟩, -⟩ := HX6.out.put 2 (s.extract 0 (m + 3)) V true a;unfold tput at e0 e1 e2 e3 e4;simp [results, Tryz.results160, go_sem, e0, e1, e2, e3, e4, tokV]
 ·exact ((((HB5.out.setCell (by simp) _).setCell (by simp) _).setCell (by simp) _).setCell (by simp) _).setCell (by simp) _
theorem number_over (s : ByteArray) (a : Int) (n k : Nat) (u : Int) (w : World) (hn : SpanIs digB s n) (hr : Reads s n u) (hu0 : 0 <= u) (hu : u <= 10000000000) (hn0 : 0 < n) (h0 : bt s 0 ≠ 48) (hp : bt s n = 46) (hk : SpanIs digB (s.extract (n + 1) s.size) k) (hk2 : 2 <= k) (ha : 0 <= a) (has : a + s.size <= 140737488351232) (hv : 1000000000000 < 100 * u + (10 * (bt s (n + 1) - 48) + (bt s (n + 2) - 48))) :
 Calls Tryz.prog 160 #[.string s, .int .i64 a] w fun e w' => e = .panicked (gone 3 a) /\ Below w.heap.size w w' := by
 have hs0 : 0 < s.size := by have := hn.1; omega
 have hs0' : (0 : Int) < (s.size : Int) := by omega
 have huB : decide ((10000000000 : Int) < u) = false := dEf (by omega);have hb : ((s[0].toNat : Int) == 48) = false := by rw [<- bt_in hs0]; simpa using h0
 have HD := Hd (dot_at s n true (decide_eq_true hp));have HK := Hd hk;have hk1 := hk.1;rw [ByteArray.size_extract] at hk1;have hnlt : n + 3 <= s.size := by omega
 have hnlt' : (n : Int) + 3 <= (s.size : Int) := by omega
 have hi1 : (n : Int) + 1 < (s.size : Int) := by omega
 have hi2 : (n : Int) + 2 < (s.size : Int) := by omega
 have hq1 : (0 : Int) <= (n : Int) + 1 := by omega
 have hq2 : (0 : Int) <= (n : Int) + 2 := by omega
 have hr1 : ((n : Int) + 1).toNat = n + 1 := by omega
 have hr2 : ((n : Int) + 2).toNat = n + 2 := by omega
 have hj1 : n + 1 < s.size := by omega
 have hj2 : n + 2 < s.size := by omega
 have hd1 := of_decide_eq_true (hk.2.1 0 (by omega));have hd2 := of_decide_eq_true (hk.2.1 1 (by omega));rw [bt_suffix] at hd1 hd2;rw [Nat.add_zero] at hd1;rw [show n + 1 + 1 = n + 2 from rfl] at hd2;have hb1 : bt s (n + 1) = (s[n + 1].toNat : Int) := bt_in (by omega);have hb2 : bt s (n + 2) = (s[n + 2].toNat : Int) := bt_in (by omega);rw [hb1] at hd1 hv;rw [hb2] at hd2 hv
 try rw [hb1, hb2]
 clear hp hk hb1 hb2 hk1;have HN := Hd hn;have hle := hn.1;have HR := Hd hr;have HZ := Hd ((Below.refl w.heap.size w).alloc (Nat.le_refl _) (.cells #[.int .i64 0, .string ByteArray.empty, .int .i64 0, .bool false, .int .i64 0] 94));have HX := Hd (TBox.made w 94 0 ByteArray.empty 0 false 0);clear hn hr
 go_enter Tryz.func160, Tryz.ntmps160
 go_wp2_with fail
 refine (digits_any s _).mono ?_;rintro e w1 ⟨m, rfl, h1, h2⟩;obtain rfl := h1.unique HN.out;have HB1 := Hd (HZ.out.trans (h2.mono HZ.out.size));have HX1 := Hd (HX.out.below h2);clear h1 h2;have hle' : (m : Int) <= (s.size : Int) := by omega
 go_wp2_with fail
 refine (HR.out _).mono ?_;rintro e w2 ⟨rfl, h2⟩;have HB2 := Hd (HB1.out.trans (h2.mono HB1.out.size));have HX2 := Hd (HX1.out.below h2);have hne : w.heap.size < w2.heap.size := by
  have h3 := h2.size
  by_cases hlt : w.heap.size < w2.heap.size
  ·exact hlt
  ·have := HX2.out.1.1;have hz : w2.heap[w.heap.size]? = none := Array.getElem?_eq_none (by omega);simp [World.cell?, hz] at this
 clear h2 HX1 HX;obtain ⟨⟨c0, c1, c2, c3, c4⟩, z0, z1, z2, z3, z4⟩ := HX2.out;have HY := Hd (TBox.made w2 94 2 (s.extract 0 m) (100 * u) false a);have HX3 := Hd (HX2.out.below ((Below.refl w2.heap.size w2).alloc (Nat.le_refl _) (.cells #[.int .i64 2, .string (s.extract 0 m), .int .i64 (100 * u), .bool false, .int .i64 a] 94)));go_wp2_with fail
 refine (HD.out _).mono ?_;rintro e w3 ⟨rfl, h3⟩;subst w3;go_wp2_with fail
 refine (digits_any _ _).mono ?_;rintro e w3 ⟨k', rfl, h1, h2⟩;obtain rfl := h1.unique HK.out;have HB3 := Hd ((HB2.out.alloc (by omega) (.cells #[.int .i64 2, .string (s.extract 0 m), .int .i64 (100 * u), .bool false, .int .i64 a] 94)).trans (h2.mono (by simp; omega)));have HY3 := Hd (HY.out.below h2);have HX4 := Hd (HX3.out.below h2);clear h1 h2 c0 c1 c2 c3 c4 z0 z1 z2 z3 z4 HX2 HX3 HY;have hk2B : decide ((k' : Int) < 2) = false := dEf (by omega);obtain ⟨⟨c0, c1, c2, c3, c4⟩, z0, z1, z2, z3, z4⟩ := HX4.out;obtain ⟨⟨y0, y1, y2, y3, y4⟩, x0, x1, x2, x3, x4⟩ := HY3.out;have HY4 := Hd (HY3.out.two true (s.extract 0 (m + 3)));have HX5 := Hd ((HX4.out.away hne 3 (.bool true)).away hne 1 (.string (s.extract 0 (m + 3))));have HB4 : Hid (Below w.heap.size w ((w3.setCell ⟨w2.heap.size, 3, none⟩ (.bool true)).setCell ⟨w2.heap.size, 1, none⟩ (.string (s.extract 0 (m + 3))))) := (HB3.out.setCell (by simp; omega) _).setCell (by simp; omega) _;go_wp2_with fail
 clear c0 c1 c2 c3 c4 z0 z1 z2 z3 z4 y0 y1 y2 y3 y4 x0 x1 x2 x3 x4;generalize (w3.setCell ⟨w2.heap.size, 3, none⟩ (.bool true)).setCell ⟨w2.heap.size, 1, none⟩ (.string (s.extract 0 (m + 3))) = w4 at *;obtain ⟨⟨c0, c1, c2, c3, c4⟩, z0, z1, z2, z3, z4⟩ := HX5.out;obtain ⟨⟨y0, y1, y2, y3, y4⟩, x0, x1, x2, x3, x4⟩ := HY4.out
 go_region
 generalize hV : 100 * u + (10 * ((s[m + 1].toNat : Int) - 48) + ((s[m + 2].toNat : Int) - 48)) = V at *;have HY5 := Hd ((HY4.out.num V).drawn);have HX6 := Hd ((HX5.out.away hne 2 (.int .i64 V)).drawn);have HB5 : Hid (Below w.heap.size w (w4.setCell ⟨w2.heap.size, 2, none⟩ (.int .i64 V)).drew) := (HB4.out.setCell (by simp; omega) _).drew;clear c0 c1 c2 c3 c4 z0 z1 z2 z3 z4 y0 y1 y2 y3 y4 x0 x1 x2 x3 x4;generalize (w4.setCell ⟨w2.heap.size, 2, none⟩ (.int .i64 V)).drew = w5 at *;obtain ⟨⟨c0, c1, c2, c3, c4⟩, z0, z1, z2, z3, z4⟩ := HX6.out;obtain ⟨⟨y0, y1, y2, y3, y4⟩, x0, x1, x2, x3, x4⟩ := HY5.out;have hvB : (1000000000000 : Int) < V := by omega
 go_wp2_with fail
 refine (giveUp_any _ _ _).mono ?_;rintro e w6 ⟨rfl, rfl⟩;go_wp2_with fail
 exact ⟨rfl, rfl, HB5.out⟩
end Go.Proofs.YtmlpedgcpffpnaaGreatDoor
