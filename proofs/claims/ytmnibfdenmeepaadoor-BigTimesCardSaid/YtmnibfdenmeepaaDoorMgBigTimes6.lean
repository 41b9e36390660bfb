/- The texts Shelf Long OfDig Parse Text, one behind the other. -/
import Derived.Test.YtmnibfdenmeepaaDoorMgBigTimes5
import Derived.Shelf.Small.Bits
import Derived.Shelf.Small.Wraps
import Derived.Shelf.Strconv.Itoa0
import Derived.Shelf.Strconv.Itoa1
import Derived.Shelf.LaysM
import Derived.Shelf.Strconv.Itoa2
import Derived.Shelf.Strconv.Itoa3
import Derived.Shelf.Strings.Prefix
import Derived.Test.YtmnibfdenmeepaaDoorProg
import Derived.Deep.RegionWith
/- The contracts of the library functions that this seat calls, off the shelf, laid over its program. -/
namespace Go.Proofs
open Go.Shelf
def Tryd.lays128_ren : Go.Shelf.Ren := ⟨fun | 128 => 138 | n => n, fun | 51 => 75 | 3 => 3 | 4 => 4 | 46 => 92 | 5 => 5 | 9 => 9 | n => n, fun | n => n⟩
theorem Tryd.lays128 : Go.Proofs.Lays.n128 Tryd.prog Tryd.lays128_ren := {
  mixed := by kernel_rfl
  f128 := Tryd.func138.trans (congrArg some (by kernel_rfl))
  t3 := Tryd.underlying3
  a3 := Tryd.isAgg3
  z3 := Tryd.sizeOf3
  v3 := Tryd.zeroValue3
  t4 := Tryd.underlying4
  a4 := Tryd.isAgg4
  z4 := Tryd.sizeOf4
  v4 := Tryd.zeroValue4
  t5 := Tryd.underlying5
  a5 := Tryd.isAgg5
  z5 := Tryd.sizeOf5
  v5 := Tryd.zeroValue5
  t9 := Tryd.underlying9
  a9 := Tryd.isAgg9
  z9 := Tryd.sizeOf9
  v9 := Tryd.zeroValue9
  t46 := Tryd.underlying92
  a46 := Tryd.isAgg92
  z46 := Tryd.sizeOf92
  v46 := Tryd.zeroValue92
  t51 := Tryd.underlying75
  a51 := Tryd.isAgg75
  z51 := Tryd.sizeOf75
  v51 := Tryd.zeroValue75 }

theorem Tryd.bits_Len32 (x : Int) (w : World) (h0 : 0 ≤ x) (h1 : x ≤ 4294967295) :
    Calls Tryd.prog 138 #[.int .u32 x] w fun e w' => e = .returned (.int .i64 (Lib.bitLen x.toNat)) ∧ w' = w := Any.bits_Len32 Tryd.lays128 x w h0 h1
def Tryd.lays133_ren : Go.Shelf.Ren := ⟨fun | 133 => 130 | 128 => 138 | n => n, fun | 51 => 75 | 3 => 3 | 4 => 4 | 46 => 92 | 5 => 5 | 9 => 9 | n => n, fun | n => n⟩
theorem Tryd.lays133 : Go.Proofs.Lays.n133 Tryd.prog Tryd.lays133_ren := {
  mixed := by kernel_rfl
  f128 := Tryd.func138.trans (congrArg some (by kernel_rfl))
  f133 := Tryd.func130.trans (congrArg some (by kernel_rfl))
  t3 := Tryd.underlying3
  a3 := Tryd.isAgg3
  z3 := Tryd.sizeOf3
  v3 := Tryd.zeroValue3
  t4 := Tryd.underlying4
  a4 := Tryd.isAgg4
  z4 := Tryd.sizeOf4
  v4 := Tryd.zeroValue4
  t5 := Tryd.underlying5
  a5 := Tryd.isAgg5
  z5 := Tryd.sizeOf5
  v5 := Tryd.zeroValue5
  t9 := Tryd.underlying9
  a9 := Tryd.isAgg9
  z9 := Tryd.sizeOf9
  v9 := Tryd.zeroValue9
  t46 := Tryd.underlying92
  a46 := Tryd.isAgg92
  z46 := Tryd.sizeOf92
  v46 := Tryd.zeroValue92
  t51 := Tryd.underlying75
  a51 := Tryd.isAgg75
  z51 := Tryd.sizeOf75
  v51 := Tryd.zeroValue75 }

theorem Tryd.bits_LeadingZeros32 (x : Int) (w : World) (h0 : 0 ≤ x) (h1 : x ≤ 4294967295) :
    Calls Tryd.prog 130 #[.int .u32 x] w fun e w' => e = .returned (.int .i64 (32 - (Lib.bitLen x.toNat : Int))) ∧ w' = w := Any.bits_LeadingZeros32 Tryd.lays133 x w h0 h1
def Tryd.lays210_ren : Go.Shelf.Ren := ⟨fun | 210 => 119 | 206 => 134 | n => n, fun | 9 => 9 | 4 => 4 | 3 => 3 | n => n, fun | n => n⟩
theorem Tryd.lays210 : Go.Proofs.Lays.n210 Tryd.prog Tryd.lays210_ren := {
  mixed := by kernel_rfl
  f206 := Tryd.func134.trans (congrArg some (by kernel_rfl))
  f210 := Tryd.func119.trans (congrArg some (by kernel_rfl))
  t3 := Tryd.underlying3
  a3 := Tryd.isAgg3
  z3 := Tryd.sizeOf3
  v3 := Tryd.zeroValue3
  t4 := Tryd.underlying4
  a4 := Tryd.isAgg4
  z4 := Tryd.sizeOf4
  v4 := Tryd.zeroValue4
  t9 := Tryd.underlying9
  a9 := Tryd.isAgg9
  z9 := Tryd.sizeOf9
  v9 := Tryd.zeroValue9 }
open Go.RowKit in

theorem Tryd.stringslite_CutPrefix (s p : ByteArray) (w : World) :
    Calls Tryd.prog 119 #[.string s, .string p] w fun e w' => e = .returned (.tuple #[.string ⟨(Lib.trimPrefix s.data.toList p.data.toList).toArray⟩, .bool (Lib.hasPrefix s.data.toList p.data.toList)]) ∧ w' = w := Any.stringslite_CutPrefix Tryd.lays210 s p w
def Tryd.lays103_ren : Go.Shelf.Ren := ⟨fun | 103 => 95 | 210 => 119 | 206 => 134 | n => n, fun | 9 => 9 | 4 => 4 | 24 => 94 | 3 => 3 | n => n, fun | n => n⟩
theorem Tryd.lays103 : Go.Proofs.Lays.n103 Tryd.prog Tryd.lays103_ren := {
  mixed := by kernel_rfl
  f103 := Tryd.func95.trans (congrArg some (by kernel_rfl))
  f206 := Tryd.func134.trans (congrArg some (by kernel_rfl))
  f210 := Tryd.func119.trans (congrArg some (by kernel_rfl))
  t3 := Tryd.underlying3
  a3 := Tryd.isAgg3
  z3 := Tryd.sizeOf3
  v3 := Tryd.zeroValue3
  t4 := Tryd.underlying4
  a4 := Tryd.isAgg4
  z4 := Tryd.sizeOf4
  v4 := Tryd.zeroValue4
  t9 := Tryd.underlying9
  a9 := Tryd.isAgg9
  z9 := Tryd.sizeOf9
  v9 := Tryd.zeroValue9
  t24 := Tryd.underlying94
  a24 := Tryd.isAgg94
  z24 := Tryd.sizeOf94
  v24 := Tryd.zeroValue94 }
open Go.RowKit in

theorem Tryd.strings_CutPrefix (s p : ByteArray) (w : World) :
    Calls Tryd.prog 95 #[.string s, .string p] w fun e w' => e = .returned (.tuple #[.string ⟨(Lib.trimPrefix s.data.toList p.data.toList).toArray⟩, .bool (Lib.hasPrefix s.data.toList p.data.toList)]) ∧ w' = w := Any.strings_CutPrefix Tryd.lays103 s p w
def Tryd.lays129_ren : Go.Shelf.Ren := ⟨fun | 129 => 146 | n => n, fun | 53 => 90 | 3 => 3 | 4 => 4 | 46 => 92 | 5 => 5 | 9 => 9 | n => n, fun | n => n⟩
theorem Tryd.lays129 : Go.Proofs.Lays.n129 Tryd.prog Tryd.lays129_ren := {
  mixed := by kernel_rfl
  f129 := Tryd.func146.trans (congrArg some (by kernel_rfl))
  t3 := Tryd.underlying3
  a3 := Tryd.isAgg3
  z3 := Tryd.sizeOf3
  v3 := Tryd.zeroValue3
  t4 := Tryd.underlying4
  a4 := Tryd.isAgg4
  z4 := Tryd.sizeOf4
  v4 := Tryd.zeroValue4
  t5 := Tryd.underlying5
  a5 := Tryd.isAgg5
  z5 := Tryd.sizeOf5
  v5 := Tryd.zeroValue5
  t9 := Tryd.underlying9
  a9 := Tryd.isAgg9
  z9 := Tryd.sizeOf9
  v9 := Tryd.zeroValue9
  t46 := Tryd.underlying92
  a46 := Tryd.isAgg92
  z46 := Tryd.sizeOf92
  v46 := Tryd.zeroValue92
  t53 := Tryd.underlying90
  a53 := Tryd.isAgg90
  z53 := Tryd.sizeOf90
  v53 := Tryd.zeroValue90 }

theorem Tryd.bits_Len64 (x : Int) (w : World) (h0 : 0 ≤ x) (h1 : x ≤ 18446744073709551615) :
    Calls Tryd.prog 146 #[.int .u64 x] w fun e w' => e = .returned (.int .i64 (Lib.bitLen x.toNat)) ∧ w' = w := Any.bits_Len64 Tryd.lays129 x w h0 h1
def Tryd.lays317_ren : Go.Shelf.Ren := ⟨fun | 317 => 145 | n => n, fun | 3 => 3 | 46 => 92 | n => n, fun | n => n⟩
theorem Tryd.lays317 : Go.Proofs.Lays.n317 Tryd.prog Tryd.lays317_ren := {
  mixed := by kernel_rfl
  f317 := Tryd.func145.trans (congrArg some (by kernel_rfl))
  t3 := Tryd.underlying3
  a3 := Tryd.isAgg3
  z3 := Tryd.sizeOf3
  v3 := Tryd.zeroValue3
  t46 := Tryd.underlying92
  a46 := Tryd.isAgg92
  z46 := Tryd.sizeOf92
  v46 := Tryd.zeroValue92 }
open Go.Lib in

theorem Tryd.internal_strconv_log10Pow2 (x : Nat) (h : x ≤ 64) (w : World) :
    Calls Tryd.prog 145 #[.int .i64 x] w fun e w' => e = .returned (.int .i64 (Lib.l10 x)) ∧ w' = w := Any.internal_strconv_log10Pow2 Tryd.lays317 x h w
def Tryd.lays318_ren : Go.Shelf.Ren := ⟨fun | 318 => 147 | n => n, fun | 3 => 3 | 4 => 4 | n => n, fun | n => n⟩
theorem Tryd.lays318 : Go.Proofs.Lays.n318 Tryd.prog Tryd.lays318_ren := {
  mixed := by kernel_rfl
  f318 := Tryd.func147.trans (congrArg some (by kernel_rfl))
  t3 := Tryd.underlying3
  a3 := Tryd.isAgg3
  z3 := Tryd.sizeOf3
  v3 := Tryd.zeroValue3
  t4 := Tryd.underlying4
  a4 := Tryd.isAgg4
  z4 := Tryd.sizeOf4
  v4 := Tryd.zeroValue4 }
open Go.Lib in

theorem Tryd.internal_strconv_bool2_int (b : Bool) (w : World) :
    Calls Tryd.prog 147 #[.bool b] w fun e w' => e = .returned (.int .i64 (if b then 1 else 0)) ∧ w' = w := Any.internal_strconv_bool2_int Tryd.lays318 b w
def Tryd.lays283_ren : Go.Shelf.Ren := ⟨fun | 283 => 139 | n => n, fun | 3 => 3 | 9 => 9 | 4 => 4 | n => n, fun | n => n⟩
theorem Tryd.lays283 : Go.Proofs.Lays.n283 Tryd.prog Tryd.lays283_ren := {
  mixed := by kernel_rfl
  f283 := Tryd.func139.trans (congrArg some (by kernel_rfl))
  t3 := Tryd.underlying3
  a3 := Tryd.isAgg3
  z3 := Tryd.sizeOf3
  v3 := Tryd.zeroValue3
  t4 := Tryd.underlying4
  a4 := Tryd.isAgg4
  z4 := Tryd.sizeOf4
  v4 := Tryd.zeroValue4
  t9 := Tryd.underlying9
  a9 := Tryd.isAgg9
  z9 := Tryd.sizeOf9
  v9 := Tryd.zeroValue9 }
open Go.Lib in

theorem Tryd.internal_strconv_small (i : Nat) (h : i < 100) (w : World) :
    Calls Tryd.prog 139 #[.int .i64 i] w fun e w' => e = .returned (.string ⟨(Lib.decDigits i).toArray⟩) ∧ w' = w := Any.internal_strconv_small Tryd.lays283 i h w
def Tryd.laysM284_ren : Go.Shelf.Ren := ⟨fun | 284 => 140 | 129 => 146 | 317 => 145 | 318 => 147 | n => n, fun | 53 => 90 | 3 => 3 | 212 => 142 | 0 => 0 | 4 => 4 | 46 => 92 | 5 => 5 | 9 => 9 | n => n, fun | 17 => 0 | n => n⟩
theorem Tryd.laysM284 : Go.Proofs.LaysM.n284 Tryd.prog Tryd.laysM284_ren := {
  mixed := by kernel_rfl
  f129 := Tryd.func146.trans (congrArg some (by kernel_rfl))
  f284 := Tryd.func140.trans (congrArg some (by kernel_rfl))
  f317 := Tryd.func145.trans (congrArg some (by kernel_rfl))
  f318 := Tryd.func147.trans (congrArg some (by kernel_rfl))
  t0 := Tryd.underlying0
  a0 := Tryd.isAgg0
  z0 := Tryd.sizeOf0
  v0 := Tryd.zeroValue0
  t3 := Tryd.underlying3
  a3 := Tryd.isAgg3
  z3 := Tryd.sizeOf3
  v3 := Tryd.zeroValue3
  t4 := Tryd.underlying4
  a4 := Tryd.isAgg4
  z4 := Tryd.sizeOf4
  v4 := Tryd.zeroValue4
  t5 := Tryd.underlying5
  a5 := Tryd.isAgg5
  z5 := Tryd.sizeOf5
  v5 := Tryd.zeroValue5
  t9 := Tryd.underlying9
  a9 := Tryd.isAgg9
  z9 := Tryd.sizeOf9
  v9 := Tryd.zeroValue9
  t46 := Tryd.underlying92
  a46 := Tryd.isAgg92
  z46 := Tryd.sizeOf92
  v46 := Tryd.zeroValue92
  t53 := Tryd.underlying90
  a53 := Tryd.isAgg90
  z53 := Tryd.sizeOf90
  v53 := Tryd.zeroValue90
  t212 := Tryd.underlying142
  a212 := Tryd.isAgg142
  z212 := Tryd.sizeOf142
  v212 := Tryd.zeroValue142
  g17 := by kernel_rfl
  i0 := by kernel_rfl
  i3 := by kernel_rfl
  i4 := by kernel_rfl
  i5 := by kernel_rfl
  i9 := by kernel_rfl
  i46 := by kernel_rfl
  i53 := by kernel_rfl
  i212 := by kernel_rfl
  m17 := by kernel_rfl }
open Go.Lib in

theorem Tryd.internal_strconv_numDigits (u : Nat) (h1 : 1 ≤ u) (h2 : u < 18446744073709551616) (w : World) (htab : Lib.TabIs Tryd.prog w "internal/strconv.uint64pow10" .u64 Lib.pow10Tab) :
    Calls Tryd.prog 140 #[.int .u64 u] w fun e w' => e = .returned (.int .i64 (Lib.nDigits u)) ∧ w' = w := Any.internal_strconv_numDigits Tryd.laysM284 u h1 h2 w htab
def Tryd.lays285_ren : Go.Shelf.Ren := ⟨fun | 285 => 141 | n => n, fun | 37 => 114 | 53 => 90 | 3 => 3 | 4 => 4 | 51 => 75 | 9 => 9 | 5 => 5 | 0 => 0 | n => n, fun | n => n⟩
theorem Tryd.lays285 : Go.Proofs.Lays.n285 Tryd.prog Tryd.lays285_ren := {
  mixed := by kernel_rfl
  f285 := Tryd.func141.trans (congrArg some (by kernel_rfl))
  t0 := Tryd.underlying0
  a0 := Tryd.isAgg0
  z0 := Tryd.sizeOf0
  v0 := Tryd.zeroValue0
  t3 := Tryd.underlying3
  a3 := Tryd.isAgg3
  z3 := Tryd.sizeOf3
  v3 := Tryd.zeroValue3
  t4 := Tryd.underlying4
  a4 := Tryd.isAgg4
  z4 := Tryd.sizeOf4
  v4 := Tryd.zeroValue4
  t5 := Tryd.underlying5
  a5 := Tryd.isAgg5
  z5 := Tryd.sizeOf5
  v5 := Tryd.zeroValue5
  t9 := Tryd.underlying9
  a9 := Tryd.isAgg9
  z9 := Tryd.sizeOf9
  v9 := Tryd.zeroValue9
  t37 := Tryd.underlying114
  a37 := Tryd.isAgg114
  z37 := Tryd.sizeOf114
  v37 := Tryd.zeroValue114
  t51 := Tryd.underlying75
  a51 := Tryd.isAgg75
  z51 := Tryd.sizeOf75
  v51 := Tryd.zeroValue75
  t53 := Tryd.underlying90
  a53 := Tryd.isAgg90
  z53 := Tryd.sizeOf90
  v53 := Tryd.zeroValue90 }
open Go.RowKit Go.Sort Go.Lib in

theorem Tryd.internal_strconv_formatBase10 (blk off cap : Nat) (u : Nat) (d : Array UInt8) (w : World) (hH : Holds (fun (b : UInt8) => Value.int .u8 (b.toNat : Int)) w blk off d) (hu : u < 10 ^ d.size) (hu64 : u < 18446744073709551616) (hsz : d.size < 4611686018427387904) :
    Calls Tryd.prog 141 #[.slice (some ⟨blk, off, none⟩) d.size cap, .int .u64 u] w fun e w' =>
      e = .returned (.tuple #[]) ∧ ∃ (n v' : Nat) (dk : Array UInt8), w' = (putRow (fun (b : UInt8) => Value.int .u8 (b.toNat : Int)) w blk off dk).drewN n ∧ FmtInv d.size u 0 v' dk := Any.internal_strconv_formatBase10 Tryd.lays285 blk off cap u d w hH hu hu64 hsz
def Tryd.laysM246_ren : Go.Shelf.Ren := ⟨fun | 246 => 133 | 283 => 139 | 284 => 140 | 285 => 141 | 286 => 142 | 129 => 146 | 317 => 145 | 318 => 147 | 319 => 148 | 320 => 149 | 337 => 150 | 338 => 151 | n => n, fun | 2 => 2 | 3 => 3 | 9 => 9 | 4 => 4 | 171 => 133 | 0 => 0 | 53 => 90 | 37 => 114 | 5 => 5 | 173 => 136 | 212 => 142 | 51 => 75 | 20 => 20 | 213 => 143 | 46 => 92 | 232 => 146 | 233 => 147 | n => n, fun | 17 => 0 | 18 => 1 | 19 => 2 | n => n⟩
theorem Tryd.laysM246 : Go.Proofs.LaysM.n246 Tryd.prog Tryd.laysM246_ren := {
  mixed := by kernel_rfl
  f129 := Tryd.func146.trans (congrArg some (by kernel_rfl))
  f246 := Tryd.func133.trans (congrArg some (by kernel_rfl))
  f283 := Tryd.func139.trans (congrArg some (by kernel_rfl))
  f284 := Tryd.func140.trans (congrArg some (by kernel_rfl))
  f285 := Tryd.func141.trans (congrArg some (by kernel_rfl))
  f286 := Tryd.func142.trans (congrArg some (by kernel_rfl))
  f317 := Tryd.func145.trans (congrArg some (by kernel_rfl))
  f318 := Tryd.func147.trans (congrArg some (by kernel_rfl))
  f319 := Tryd.func148.trans (congrArg some (by kernel_rfl))
  f320 := Tryd.func149.trans (congrArg some (by kernel_rfl))
  f337 := Tryd.func150.trans (congrArg some (by kernel_rfl))
  f338 := Tryd.func151.trans (congrArg some (by kernel_rfl))
  t0 := Tryd.underlying0
  a0 := Tryd.isAgg0
  z0 := Tryd.sizeOf0
  v0 := Tryd.zeroValue0
  t2 := Tryd.underlying2
  a2 := Tryd.isAgg2
  z2 := Tryd.sizeOf2
  v2 := Tryd.zeroValue2
  t3 := Tryd.underlying3
  a3 := Tryd.isAgg3
  z3 := Tryd.sizeOf3
  v3 := Tryd.zeroValue3
  t4 := Tryd.underlying4
  a4 := Tryd.isAgg4
  z4 := Tryd.sizeOf4
  v4 := Tryd.zeroValue4
  t5 := Tryd.underlying5
  a5 := Tryd.isAgg5
  z5 := Tryd.sizeOf5
  v5 := Tryd.zeroValue5
  t9 := Tryd.underlying9
  a9 := Tryd.isAgg9
  z9 := Tryd.sizeOf9
  v9 := Tryd.zeroValue9
  t20 := Tryd.underlying20
  a20 := Tryd.isAgg20
  z20 := Tryd.sizeOf20
  v20 := Tryd.zeroValue20
  t37 := Tryd.underlying114
  a37 := Tryd.isAgg114
  z37 := Tryd.sizeOf114
  v37 := Tryd.zeroValue114
  t46 := Tryd.underlying92
  a46 := Tryd.isAgg92
  z46 := Tryd.sizeOf92
  v46 := Tryd.zeroValue92
  t51 := Tryd.underlying75
  a51 := Tryd.isAgg75
  z51 := Tryd.sizeOf75
  v51 := Tryd.zeroValue75
  t53 := Tryd.underlying90
  a53 := Tryd.isAgg90
  z53 := Tryd.sizeOf90
  v53 := Tryd.zeroValue90
  t171 := Tryd.underlying133
  a171 := Tryd.isAgg133
  z171 := Tryd.sizeOf133
  v171 := Tryd.zeroValue133
  t173 := Tryd.underlying136
  a173 := Tryd.isAgg136
  z173 := Tryd.sizeOf136
  v173 := Tryd.zeroValue136
  t212 := Tryd.underlying142
  a212 := Tryd.isAgg142
  z212 := Tryd.sizeOf142
  v212 := Tryd.zeroValue142
  t213 := Tryd.underlying143
  a213 := Tryd.isAgg143
  z213 := Tryd.sizeOf143
  t232 := Tryd.underlying146
  a232 := Tryd.isAgg146
  z232 := Tryd.sizeOf146
  v232 := Tryd.zeroValue146
  t233 := Tryd.underlying147
  a233 := Tryd.isAgg147
  z233 := Tryd.sizeOf147
  v233 := Tryd.zeroValue147
  g17 := by kernel_rfl
  g18 := by kernel_rfl
  g19 := by kernel_rfl
  i0 := by kernel_rfl
  i2 := by kernel_rfl
  i3 := by kernel_rfl
  i4 := by kernel_rfl
  i5 := by kernel_rfl
  i9 := by kernel_rfl
  i20 := by kernel_rfl
  i37 := by kernel_rfl
  i46 := by kernel_rfl
  i51 := by kernel_rfl
  i53 := by kernel_rfl
  i171 := by kernel_rfl
  i173 := by kernel_rfl
  i212 := by kernel_rfl
  i232 := by kernel_rfl
  i233 := by kernel_rfl
  m17 := by kernel_rfl
  m18 := by kernel_rfl
  m19 := by kernel_rfl }
open Go.RowKit Go.Sort Go.Lib in

theorem Tryd.internal_strconv_FormatInt_10 (n : Int) (h0 : -9223372036854775808 ≤ n) (h1 : n ≤ 9223372036854775807) (w : World) (htab : Lib.TabIs Tryd.prog w "internal/strconv.uint64pow10" .u64 Lib.pow10Tab) :
    Calls Tryd.prog 133 #[.int .i64 n, .int .i64 10] w fun e w' => e = .returned (.string ⟨(Lib.itoa n).toArray⟩) ∧ ∃ k os, w' = grow (w.drewN k) os := Any.internal_strconv_FormatInt_10 Tryd.laysM246 n h0 h1 w htab
def Tryd.lays246_ren : Go.Shelf.Ren := ⟨fun | 246 => 133 | 283 => 139 | 284 => 140 | 285 => 141 | 286 => 142 | 129 => 146 | 317 => 145 | 318 => 147 | 319 => 148 | 320 => 149 | 337 => 150 | 338 => 151 | n => n, fun | 2 => 2 | 3 => 3 | 9 => 9 | 4 => 4 | 171 => 133 | 0 => 0 | 53 => 90 | 37 => 114 | 5 => 5 | 173 => 136 | 212 => 142 | 51 => 75 | 20 => 20 | 213 => 143 | 46 => 92 | 232 => 146 | 233 => 147 | n => n, fun | 17 => 0 | 18 => 1 | 19 => 2 | n => n⟩
theorem Tryd.lays246 : Go.Proofs.Lays.n246 Tryd.prog Tryd.lays246_ren := {
  mixed := by kernel_rfl
  f129 := Tryd.func146.trans (congrArg some (by kernel_rfl))
  f246 := Tryd.func133.trans (congrArg some (by kernel_rfl))
  f283 := Tryd.func139.trans (congrArg some (by kernel_rfl))
  f284 := Tryd.func140.trans (congrArg some (by kernel_rfl))
  f285 := Tryd.func141.trans (congrArg some (by kernel_rfl))
  f286 := Tryd.func142.trans (congrArg some (by kernel_rfl))
  f317 := Tryd.func145.trans (congrArg some (by kernel_rfl))
  f318 := Tryd.func147.trans (congrArg some (by kernel_rfl))
  f319 := Tryd.func148.trans (congrArg some (by kernel_rfl))
  f320 := Tryd.func149.trans (congrArg some (by kernel_rfl))
  f337 := Tryd.func150.trans (congrArg some (by kernel_rfl))
  f338 := Tryd.func151.trans (congrArg some (by kernel_rfl))
  t0 := Tryd.underlying0
  a0 := Tryd.isAgg0
  z0 := Tryd.sizeOf0
  v0 := Tryd.zeroValue0
  t2 := Tryd.underlying2
  a2 := Tryd.isAgg2
  z2 := Tryd.sizeOf2
  v2 := Tryd.zeroValue2
  t3 := Tryd.underlying3
  a3 := Tryd.isAgg3
  z3 := Tryd.sizeOf3
  v3 := Tryd.zeroValue3
  t4 := Tryd.underlying4
  a4 := Tryd.isAgg4
  z4 := Tryd.sizeOf4
  v4 := Tryd.zeroValue4
  t5 := Tryd.underlying5
  a5 := Tryd.isAgg5
  z5 := Tryd.sizeOf5
  v5 := Tryd.zeroValue5
  t9 := Tryd.underlying9
  a9 := Tryd.isAgg9
  z9 := Tryd.sizeOf9
  v9 := Tryd.zeroValue9
  t20 := Tryd.underlying20
  a20 := Tryd.isAgg20
  z20 := Tryd.sizeOf20
  v20 := Tryd.zeroValue20
  t37 := Tryd.underlying114
  a37 := Tryd.isAgg114
  z37 := Tryd.sizeOf114
  v37 := Tryd.zeroValue114
  t46 := Tryd.underlying92
  a46 := Tryd.isAgg92
  z46 := Tryd.sizeOf92
  v46 := Tryd.zeroValue92
  t51 := Tryd.underlying75
  a51 := Tryd.isAgg75
  z51 := Tryd.sizeOf75
  v51 := Tryd.zeroValue75
  t53 := Tryd.underlying90
  a53 := Tryd.isAgg90
  z53 := Tryd.sizeOf90
  v53 := Tryd.zeroValue90
  t171 := Tryd.underlying133
  a171 := Tryd.isAgg133
  z171 := Tryd.sizeOf133
  v171 := Tryd.zeroValue133
  t173 := Tryd.underlying136
  a173 := Tryd.isAgg136
  z173 := Tryd.sizeOf136
  v173 := Tryd.zeroValue136
  t212 := Tryd.underlying142
  a212 := Tryd.isAgg142
  z212 := Tryd.sizeOf142
  v212 := Tryd.zeroValue142
  t213 := Tryd.underlying143
  a213 := Tryd.isAgg143
  z213 := Tryd.sizeOf143
  t232 := Tryd.underlying146
  a232 := Tryd.isAgg146
  z232 := Tryd.sizeOf146
  v232 := Tryd.zeroValue146
  t233 := Tryd.underlying147
  a233 := Tryd.isAgg147
  z233 := Tryd.sizeOf147
  v233 := Tryd.zeroValue147
  g17 := by kernel_rfl
  g18 := by kernel_rfl
  g19 := by kernel_rfl }
open Go.RowKit Go.Sort Go.Lib in

theorem Tryd.internal_strconv_FormatInt_10_small (i : Nat) (hi : i < 100) (w : World) :
    Calls Tryd.prog 133 #[.int .i64 i, .int .i64 10] w fun e w' => e = .returned (.string ⟨(Lib.decDigits i).toArray⟩) ∧ w' = w := Any.internal_strconv_FormatInt_10_small Tryd.lays246 i hi w
def Tryd.laysM243_ren : Go.Shelf.Ren := ⟨fun | 243 => 116 | 246 => 133 | 283 => 139 | 284 => 140 | 285 => 141 | 286 => 142 | 129 => 146 | 317 => 145 | 318 => 147 | 319 => 148 | 320 => 149 | 337 => 150 | 338 => 151 | n => n, fun | 3 => 3 | 9 => 9 | 2 => 2 | 4 => 4 | 171 => 133 | 0 => 0 | 53 => 90 | 37 => 114 | 5 => 5 | 173 => 136 | 212 => 142 | 51 => 75 | 20 => 20 | 213 => 143 | 46 => 92 | 232 => 146 | 233 => 147 | n => n, fun | 17 => 0 | 18 => 1 | 19 => 2 | n => n⟩
theorem Tryd.laysM243 : Go.Proofs.LaysM.n243 Tryd.prog Tryd.laysM243_ren := {
  mixed := by kernel_rfl
  f129 := Tryd.func146.trans (congrArg some (by kernel_rfl))
  f243 := Tryd.func116.trans (congrArg some (by kernel_rfl))
  f246 := Tryd.func133.trans (congrArg some (by kernel_rfl))
  f283 := Tryd.func139.trans (congrArg some (by kernel_rfl))
  f284 := Tryd.func140.trans (congrArg some (by kernel_rfl))
  f285 := Tryd.func141.trans (congrArg some (by kernel_rfl))
  f286 := Tryd.func142.trans (congrArg some (by kernel_rfl))
  f317 := Tryd.func145.trans (congrArg some (by kernel_rfl))
  f318 := Tryd.func147.trans (congrArg some (by kernel_rfl))
  f319 := Tryd.func148.trans (congrArg some (by kernel_rfl))
  f320 := Tryd.func149.trans (congrArg some (by kernel_rfl))
  f337 := Tryd.func150.trans (congrArg some (by kernel_rfl))
  f338 := Tryd.func151.trans (congrArg some (by kernel_rfl))
  t0 := Tryd.underlying0
  a0 := Tryd.isAgg0
  z0 := Tryd.sizeOf0
  v0 := Tryd.zeroValue0
  t2 := Tryd.underlying2
  a2 := Tryd.isAgg2
  z2 := Tryd.sizeOf2
  v2 := Tryd.zeroValue2
  t3 := Tryd.underlying3
  a3 := Tryd.isAgg3
  z3 := Tryd.sizeOf3
  v3 := Tryd.zeroValue3
  t4 := Tryd.underlying4
  a4 := Tryd.isAgg4
  z4 := Tryd.sizeOf4
  v4 := Tryd.zeroValue4
  t5 := Tryd.underlying5
  a5 := Tryd.isAgg5
  z5 := Tryd.sizeOf5
  v5 := Tryd.zeroValue5
  t9 := Tryd.underlying9
  a9 := Tryd.isAgg9
  z9 := Tryd.sizeOf9
  v9 := Tryd.zeroValue9
  t20 := Tryd.underlying20
  a20 := Tryd.isAgg20
  z20 := Tryd.sizeOf20
  v20 := Tryd.zeroValue20
  t37 := Tryd.underlying114
  a37 := Tryd.isAgg114
  z37 := Tryd.sizeOf114
  v37 := Tryd.zeroValue114
  t46 := Tryd.underlying92
  a46 := Tryd.isAgg92
  z46 := Tryd.sizeOf92
  v46 := Tryd.zeroValue92
  t51 := Tryd.underlying75
  a51 := Tryd.isAgg75
  z51 := Tryd.sizeOf75
  v51 := Tryd.zeroValue75
  t53 := Tryd.underlying90
  a53 := Tryd.isAgg90
  z53 := Tryd.sizeOf90
  v53 := Tryd.zeroValue90
  t171 := Tryd.underlying133
  a171 := Tryd.isAgg133
  z171 := Tryd.sizeOf133
  v171 := Tryd.zeroValue133
  t173 := Tryd.underlying136
  a173 := Tryd.isAgg136
  z173 := Tryd.sizeOf136
  v173 := Tryd.zeroValue136
  t212 := Tryd.underlying142
  a212 := Tryd.isAgg142
  z212 := Tryd.sizeOf142
  v212 := Tryd.zeroValue142
  t213 := Tryd.underlying143
  a213 := Tryd.isAgg143
  z213 := Tryd.sizeOf143
  t232 := Tryd.underlying146
  a232 := Tryd.isAgg146
  z232 := Tryd.sizeOf146
  v232 := Tryd.zeroValue146
  t233 := Tryd.underlying147
  a233 := Tryd.isAgg147
  z233 := Tryd.sizeOf147
  v233 := Tryd.zeroValue147
  g17 := by kernel_rfl
  g18 := by kernel_rfl
  g19 := by kernel_rfl
  i0 := by kernel_rfl
  i2 := by kernel_rfl
  i3 := by kernel_rfl
  i4 := by kernel_rfl
  i5 := by kernel_rfl
  i9 := by kernel_rfl
  i20 := by kernel_rfl
  i37 := by kernel_rfl
  i46 := by kernel_rfl
  i51 := by kernel_rfl
  i53 := by kernel_rfl
  i171 := by kernel_rfl
  i173 := by kernel_rfl
  i212 := by kernel_rfl
  i232 := by kernel_rfl
  i233 := by kernel_rfl
  m17 := by kernel_rfl
  m18 := by kernel_rfl
  m19 := by kernel_rfl }
open Go.RowKit Go.Sort Go.Lib in

theorem Tryd.internal_strconv_Itoa (n : Int) (h0 : -9223372036854775808 ≤ n) (h1 : n ≤ 9223372036854775807) (w : World) (htab : Lib.TabIs Tryd.prog w "internal/strconv.uint64pow10" .u64 Lib.pow10Tab) :
    Calls Tryd.prog 116 #[.int .i64 n] w fun e w' => e = .returned (.string ⟨(Lib.itoa n).toArray⟩) ∧ ∃ k os, w' = grow (w.drewN k) os := Any.internal_strconv_Itoa Tryd.laysM243 n h0 h1 w htab
def Tryd.lays243_ren : Go.Shelf.Ren := ⟨fun | 243 => 116 | 246 => 133 | 283 => 139 | 284 => 140 | 285 => 141 | 286 => 142 | 129 => 146 | 317 => 145 | 318 => 147 | 319 => 148 | 320 => 149 | 337 => 150 | 338 => 151 | n => n, fun | 3 => 3 | 9 => 9 | 2 => 2 | 4 => 4 | 171 => 133 | 0 => 0 | 53 => 90 | 37 => 114 | 5 => 5 | 173 => 136 | 212 => 142 | 51 => 75 | 20 => 20 | 213 => 143 | 46 => 92 | 232 => 146 | 233 => 147 | n => n, fun | 17 => 0 | 18 => 1 | 19 => 2 | n => n⟩
theorem Tryd.lays243 : Go.Proofs.Lays.n243 Tryd.prog Tryd.lays243_ren := {
  mixed := by kernel_rfl
  f129 := Tryd.func146.trans (congrArg some (by kernel_rfl))
  f243 := Tryd.func116.trans (congrArg some (by kernel_rfl))
  f246 := Tryd.func133.trans (congrArg some (by kernel_rfl))
  f283 := Tryd.func139.trans (congrArg some (by kernel_rfl))
  f284 := Tryd.func140.trans (congrArg some (by kernel_rfl))
  f285 := Tryd.func141.trans (congrArg some (by kernel_rfl))
  f286 := Tryd.func142.trans (congrArg some (by kernel_rfl))
  f317 := Tryd.func145.trans (congrArg some (by kernel_rfl))
  f318 := Tryd.func147.trans (congrArg some (by kernel_rfl))
  f319 := Tryd.func148.trans (congrArg some (by kernel_rfl))
  f320 := Tryd.func149.trans (congrArg some (by kernel_rfl))
  f337 := Tryd.func150.trans (congrArg some (by kernel_rfl))
  f338 := Tryd.func151.trans (congrArg some (by kernel_rfl))
  t0 := Tryd.underlying0
  a0 := Tryd.isAgg0
  z0 := Tryd.sizeOf0
  v0 := Tryd.zeroValue0
  t2 := Tryd.underlying2
  a2 := Tryd.isAgg2
  z2 := Tryd.sizeOf2
  v2 := Tryd.zeroValue2
  t3 := Tryd.underlying3
  a3 := Tryd.isAgg3
  z3 := Tryd.sizeOf3
  v3 := Tryd.zeroValue3
  t4 := Tryd.underlying4
  a4 := Tryd.isAgg4
  z4 := Tryd.sizeOf4
  v4 := Tryd.zeroValue4
  t5 := Tryd.underlying5
  a5 := Tryd.isAgg5
  z5 := Tryd.sizeOf5
  v5 := Tryd.zeroValue5
  t9 := Tryd.underlying9
  a9 := Tryd.isAgg9
  z9 := Tryd.sizeOf9
  v9 := Tryd.zeroValue9
  t20 := Tryd.underlying20
  a20 := Tryd.isAgg20
  z20 := Tryd.sizeOf20
  v20 := Tryd.zeroValue20
  t37 := Tryd.underlying114
  a37 := Tryd.isAgg114
  z37 := Tryd.sizeOf114
  v37 := Tryd.zeroValue114
  t46 := Tryd.underlying92
  a46 := Tryd.isAgg92
  z46 := Tryd.sizeOf92
  v46 := Tryd.zeroValue92
  t51 := Tryd.underlying75
  a51 := Tryd.isAgg75
  z51 := Tryd.sizeOf75
  v51 := Tryd.zeroValue75
  t53 := Tryd.underlying90
  a53 := Tryd.isAgg90
  z53 := Tryd.sizeOf90
  v53 := Tryd.zeroValue90
  t171 := Tryd.underlying133
  a171 := Tryd.isAgg133
  z171 := Tryd.sizeOf133
  v171 := Tryd.zeroValue133
  t173 := Tryd.underlying136
  a173 := Tryd.isAgg136
  z173 := Tryd.sizeOf136
  v173 := Tryd.zeroValue136
  t212 := Tryd.underlying142
  a212 := Tryd.isAgg142
  z212 := Tryd.sizeOf142
  v212 := Tryd.zeroValue142
  t213 := Tryd.underlying143
  a213 := Tryd.isAgg143
  z213 := Tryd.sizeOf143
  t232 := Tryd.underlying146
  a232 := Tryd.isAgg146
  z232 := Tryd.sizeOf146
  v232 := Tryd.zeroValue146
  t233 := Tryd.underlying147
  a233 := Tryd.isAgg147
  z233 := Tryd.sizeOf147
  v233 := Tryd.zeroValue147
  g17 := by kernel_rfl
  g18 := by kernel_rfl
  g19 := by kernel_rfl }
open Go.RowKit Go.Sort Go.Lib in

theorem Tryd.internal_strconv_Itoa_small (i : Nat) (hi : i < 100) (w : World) :
    Calls Tryd.prog 116 #[.int .i64 i] w fun e w' => e = .returned (.string ⟨(Lib.decDigits i).toArray⟩) ∧ w' = w := Any.internal_strconv_Itoa_small Tryd.lays243 i hi w
def Tryd.laysM171_ren : Go.Shelf.Ren := ⟨fun | 171 => 92 | 243 => 116 | 246 => 133 | 283 => 139 | 284 => 140 | 285 => 141 | 286 => 142 | 129 => 146 | 317 => 145 | 318 => 147 | 319 => 148 | 320 => 149 | 337 => 150 | 338 => 151 | n => n, fun | 3 => 3 | 9 => 9 | 2 => 2 | 4 => 4 | 171 => 133 | 0 => 0 | 53 => 90 | 37 => 114 | 5 => 5 | 173 => 136 | 212 => 142 | 51 => 75 | 20 => 20 | 213 => 143 | 46 => 92 | 232 => 146 | 233 => 147 | n => n, fun | 17 => 0 | 18 => 1 | 19 => 2 | n => n⟩
theorem Tryd.laysM171 : Go.Proofs.LaysM.n171 Tryd.prog Tryd.laysM171_ren := {
  mixed := by kernel_rfl
  f129 := Tryd.func146.trans (congrArg some (by kernel_rfl))
  f171 := Tryd.func92.trans (congrArg some (by kernel_rfl))
  f243 := Tryd.func116.trans (congrArg some (by kernel_rfl))
  f246 := Tryd.func133.trans (congrArg some (by kernel_rfl))
  f283 := Tryd.func139.trans (congrArg some (by kernel_rfl))
  f284 := Tryd.func140.trans (congrArg some (by kernel_rfl))
  f285 := Tryd.func141.trans (congrArg some (by kernel_rfl))
  f286 := Tryd.func142.trans (congrArg some (by kernel_rfl))
  f317 := Tryd.func145.trans (congrArg some (by kernel_rfl))
  f318 := Tryd.func147.trans (congrArg some (by kernel_rfl))
  f319 := Tryd.func148.trans (congrArg some (by kernel_rfl))
  f320 := Tryd.func149.trans (congrArg some (by kernel_rfl))
  f337 := Tryd.func150.trans (congrArg some (by kernel_rfl))
  f338 := Tryd.func151.trans (congrArg some (by kernel_rfl))
  t0 := Tryd.underlying0
  a0 := Tryd.isAgg0
  z0 := Tryd.sizeOf0
  v0 := Tryd.zeroValue0
  t2 := Tryd.underlying2
  a2 := Tryd.isAgg2
  z2 := Tryd.sizeOf2
  v2 := Tryd.zeroValue2
  t3 := Tryd.underlying3
  a3 := Tryd.isAgg3
  z3 := Tryd.sizeOf3
  v3 := Tryd.zeroValue3
  t4 := Tryd.underlying4
  a4 := Tryd.isAgg4
  z4 := Tryd.sizeOf4
  v4 := Tryd.zeroValue4
  t5 := Tryd.underlying5
  a5 := Tryd.isAgg5
  z5 := Tryd.sizeOf5
  v5 := Tryd.zeroValue5
  t9 := Tryd.underlying9
  a9 := Tryd.isAgg9
  z9 := Tryd.sizeOf9
  v9 := Tryd.zeroValue9
  t20 := Tryd.underlying20
  a20 := Tryd.isAgg20
  z20 := Tryd.sizeOf20
  v20 := Tryd.zeroValue20
  t37 := Tryd.underlying114
  a37 := Tryd.isAgg114
  z37 := Tryd.sizeOf114
  v37 := Tryd.zeroValue114
  t46 := Tryd.underlying92
  a46 := Tryd.isAgg92
  z46 := Tryd.sizeOf92
  v46 := Tryd.zeroValue92
  t51 := Tryd.underlying75
  a51 := Tryd.isAgg75
  z51 := Tryd.sizeOf75
  v51 := Tryd.zeroValue75
  t53 := Tryd.underlying90
  a53 := Tryd.isAgg90
  z53 := Tryd.sizeOf90
  v53 := Tryd.zeroValue90
  t171 := Tryd.underlying133
  a171 := Tryd.isAgg133
  z171 := Tryd.sizeOf133
  v171 := Tryd.zeroValue133
  t173 := Tryd.underlying136
  a173 := Tryd.isAgg136
  z173 := Tryd.sizeOf136
  v173 := Tryd.zeroValue136
  t212 := Tryd.underlying142
  a212 := Tryd.isAgg142
  z212 := Tryd.sizeOf142
  v212 := Tryd.zeroValue142
  t213 := Tryd.underlying143
  a213 := Tryd.isAgg143
  z213 := Tryd.sizeOf143
  t232 := Tryd.underlying146
  a232 := Tryd.isAgg146
  z232 := Tryd.sizeOf146
  v232 := Tryd.zeroValue146
  t233 := Tryd.underlying147
  a233 := Tryd.isAgg147
  z233 := Tryd.sizeOf147
  v233 := Tryd.zeroValue147
  g17 := by kernel_rfl
  g18 := by kernel_rfl
  g19 := by kernel_rfl
  i0 := by kernel_rfl
  i2 := by kernel_rfl
  i3 := by kernel_rfl
  i4 := by kernel_rfl
  i5 := by kernel_rfl
  i9 := by kernel_rfl
  i20 := by kernel_rfl
  i37 := by kernel_rfl
  i46 := by kernel_rfl
  i51 := by kernel_rfl
  i53 := by kernel_rfl
  i171 := by kernel_rfl
  i173 := by kernel_rfl
  i212 := by kernel_rfl
  i232 := by kernel_rfl
  i233 := by kernel_rfl
  m17 := by kernel_rfl
  m18 := by kernel_rfl
  m19 := by kernel_rfl }
open Go.RowKit Go.Sort Go.Lib in

theorem Tryd.strconv_Itoa (n : Int) (h0 : -9223372036854775808 ≤ n) (h1 : n ≤ 9223372036854775807) (w : World) (htab : Lib.TabIs Tryd.prog w "internal/strconv.uint64pow10" .u64 Lib.pow10Tab) :
    Calls Tryd.prog 92 #[.int .i64 n] w fun e w' => e = .returned (.string ⟨(Lib.itoa n).toArray⟩) ∧ ∃ k os, w' = grow (w.drewN k) os := Any.strconv_Itoa Tryd.laysM171 n h0 h1 w htab
def Tryd.lays171_ren : Go.Shelf.Ren := ⟨fun | 171 => 92 | 243 => 116 | 246 => 133 | 283 => 139 | 284 => 140 | 285 => 141 | 286 => 142 | 129 => 146 | 317 => 145 | 318 => 147 | 319 => 148 | 320 => 149 | 337 => 150 | 338 => 151 | n => n, fun | 3 => 3 | 9 => 9 | 2 => 2 | 4 => 4 | 171 => 133 | 0 => 0 | 53 => 90 | 37 => 114 | 5 => 5 | 173 => 136 | 212 => 142 | 51 => 75 | 20 => 20 | 213 => 143 | 46 => 92 | 232 => 146 | 233 => 147 | n => n, fun | 17 => 0 | 18 => 1 | 19 => 2 | n => n⟩
theorem Tryd.lays171 : Go.Proofs.Lays.n171 Tryd.prog Tryd.lays171_ren := {
  mixed := by kernel_rfl
  f129 := Tryd.func146.trans (congrArg some (by kernel_rfl))
  f171 := Tryd.func92.trans (congrArg some (by kernel_rfl))
  f243 := Tryd.func116.trans (congrArg some (by kernel_rfl))
  f246 := Tryd.func133.trans (congrArg some (by kernel_rfl))
  f283 := Tryd.func139.trans (congrArg some (by kernel_rfl))
  f284 := Tryd.func140.trans (congrArg some (by kernel_rfl))
  f285 := Tryd.func141.trans (congrArg some (by kernel_rfl))
  f286 := Tryd.func142.trans (congrArg some (by kernel_rfl))
  f317 := Tryd.func145.trans (congrArg some (by kernel_rfl))
  f318 := Tryd.func147.trans (congrArg some (by kernel_rfl))
  f319 := Tryd.func148.trans (congrArg some (by kernel_rfl))
  f320 := Tryd.func149.trans (congrArg some (by kernel_rfl))
  f337 := Tryd.func150.trans (congrArg some (by kernel_rfl))
  f338 := Tryd.func151.trans (congrArg some (by kernel_rfl))
  t0 := Tryd.underlying0
  a0 := Tryd.isAgg0
  z0 := Tryd.sizeOf0
  v0 := Tryd.zeroValue0
  t2 := Tryd.underlying2
  a2 := Tryd.isAgg2
  z2 := Tryd.sizeOf2
  v2 := Tryd.zeroValue2
  t3 := Tryd.underlying3
  a3 := Tryd.isAgg3
  z3 := Tryd.sizeOf3
  v3 := Tryd.zeroValue3
  t4 := Tryd.underlying4
  a4 := Tryd.isAgg4
  z4 := Tryd.sizeOf4
  v4 := Tryd.zeroValue4
  t5 := Tryd.underlying5
  a5 := Tryd.isAgg5
  z5 := Tryd.sizeOf5
  v5 := Tryd.zeroValue5
  t9 := Tryd.underlying9
  a9 := Tryd.isAgg9
  z9 := Tryd.sizeOf9
  v9 := Tryd.zeroValue9
  t20 := Tryd.underlying20
  a20 := Tryd.isAgg20
  z20 := Tryd.sizeOf20
  v20 := Tryd.zeroValue20
  t37 := Tryd.underlying114
  a37 := Tryd.isAgg114
  z37 := Tryd.sizeOf114
  v37 := Tryd.zeroValue114
  t46 := Tryd.underlying92
  a46 := Tryd.isAgg92
  z46 := Tryd.sizeOf92
  v46 := Tryd.zeroValue92
  t51 := Tryd.underlying75
  a51 := Tryd.isAgg75
  z51 := Tryd.sizeOf75
  v51 := Tryd.zeroValue75
  t53 := Tryd.underlying90
  a53 := Tryd.isAgg90
  z53 := Tryd.sizeOf90
  v53 := Tryd.zeroValue90
  t171 := Tryd.underlying133
  a171 := Tryd.isAgg133
  z171 := Tryd.sizeOf133
  v171 := Tryd.zeroValue133
  t173 := Tryd.underlying136
  a173 := Tryd.isAgg136
  z173 := Tryd.sizeOf136
  v173 := Tryd.zeroValue136
  t212 := Tryd.underlying142
  a212 := Tryd.isAgg142
  z212 := Tryd.sizeOf142
  v212 := Tryd.zeroValue142
  t213 := Tryd.underlying143
  a213 := Tryd.isAgg143
  z213 := Tryd.sizeOf143
  t232 := Tryd.underlying146
  a232 := Tryd.isAgg146
  z232 := Tryd.sizeOf146
  v232 := Tryd.zeroValue146
  t233 := Tryd.underlying147
  a233 := Tryd.isAgg147
  z233 := Tryd.sizeOf147
  v233 := Tryd.zeroValue147
  g17 := by kernel_rfl
  g18 := by kernel_rfl
  g19 := by kernel_rfl }
open Go.RowKit Go.Sort Go.Lib in

theorem Tryd.strconv_Itoa_small (i : Nat) (hi : i < 100) (w : World) :
    Calls Tryd.prog 92 #[.int .i64 i] w fun e w' => e = .returned (.string ⟨(Lib.decDigits i).toArray⟩) ∧ w' = w := Any.strconv_Itoa_small Tryd.lays171 i hi w
def Tryd.lays206_ren : Go.Shelf.Ren := ⟨fun | 206 => 134 | n => n, fun | 9 => 9 | 4 => 4 | 3 => 3 | n => n, fun | n => n⟩
theorem Tryd.lays206 : Go.Proofs.Lays.n206 Tryd.prog Tryd.lays206_ren := {
  mixed := by kernel_rfl
  f206 := Tryd.func134.trans (congrArg some (by kernel_rfl))
  t3 := Tryd.underlying3
  a3 := Tryd.isAgg3
  z3 := Tryd.sizeOf3
  v3 := Tryd.zeroValue3
  t4 := Tryd.underlying4
  a4 := Tryd.isAgg4
  z4 := Tryd.sizeOf4
  v4 := Tryd.zeroValue4
  t9 := Tryd.underlying9
  a9 := Tryd.isAgg9
  z9 := Tryd.sizeOf9
  v9 := Tryd.zeroValue9 }
open Go.RowKit Go.Lib in

theorem Tryd.stringslite_HasPrefix (s p : ByteArray) (w : World) :
    Calls Tryd.prog 134 #[.string s, .string p] w fun e w' => e = .returned (.bool (Lib.hasPrefix s.data.toList p.data.toList)) ∧ w' = w := Any.stringslite_HasPrefix Tryd.lays206 s p w
end Go.Proofs
/- The length of a number in bits; whether it has too many digits. -/
namespace Go.Proofs.YtmnibfdenmeepaaDoor
open Go.RowKit Go.Shelf Big

theorem bitLen_aux : ∀ (f x : Nat), x < 2 ^ f → x < 2 ^ Lib.bitLenAux f x ∧ (0 < x → 2 ^ (Lib.bitLenAux f x - 1) ≤ x ∧ 0 < Lib.bitLenAux f x) ∧ Lib.bitLenAux f x ≤ f
  | 0, x, h => by
    have : x = 0 := by simpa using h
    subst this
    simp [Lib.bitLenAux]
  | f + 1, x, h => by
    rw [Lib.bitLenAux]
    by_cases h0 : x = 0
    · subst h0; simp
    · rw [if_neg h0]
      have ⟨a, b, c⟩ := bitLen_aux f (x / 2) (by rw [Nat.pow_succ] at h; omega)
      refine ⟨?_, ?_, by omega⟩
      · rw [Nat.add_comm 1, Nat.pow_succ]; omega
      · intro _
        refine ⟨?_, by omega⟩
        rw [Nat.add_sub_cancel_left]
        by_cases hx : 0 < x / 2
        · obtain ⟨b1, b2⟩ := b hx
          have e : Lib.bitLenAux f (x / 2) = (Lib.bitLenAux f (x / 2) - 1) + 1 := by omega
          rw [e, Nat.pow_succ]
          omega
        · have : x / 2 = 0 := by omega
          rw [this]
          have hz : Lib.bitLenAux f 0 = 0 := by cases f <;> simp [Lib.bitLenAux]
          rw [hz]
          simp
          omega
theorem bitLen_is (x : Nat) (h : x < 4294967296) (h0 : 0 < x) : x < 2 ^ Lib.bitLen x ∧ 2 ^ (Lib.bitLen x - 1) ≤ x ∧ 0 < Lib.bitLen x ∧ Lib.bitLen x ≤ 32 := by
  have ⟨a, b, _⟩ := bitLen_aux 64 x (by omega)
  obtain ⟨b1, b2⟩ := b h0
  refine ⟨a, b1, b2, ?_⟩
  rcases Nat.lt_or_ge 32 (Lib.bitLen x) with hl | hl
  · have : 2 ^ 32 ≤ 2 ^ (Lib.bitLen x - 1) := Nat.pow_le_pow_right (by omega) (by omega)
    have hb1 : 2 ^ (Lib.bitLen x - 1) ≤ x := b1
    omega
  · exact hl

/-- How many bits a number has. -/
def blen (n : Nat) : Nat := if n = 0 then 0 else Nat.log2 n + 1
theorem blen_eq {n L : Nat} (h1 : n < 2 ^ L) (h2 : 2 ^ (L - 1) ≤ n) (h0 : 0 < n) (hL : 0 < L) : blen n = L := by
  unfold blen
  rw [if_neg (by omega)]
  have := (Nat.log2_eq_iff (n := n) (k := L - 1) (by omega)).2 ⟨h2, by rw [Nat.sub_add_cancel hL]; exact h1⟩
  omega
theorem blen_lt (n : Nat) : n < 2 ^ blen n := by
  unfold blen
  split
  · rename_i h; subst h; decide
  · rename_i h
    exact ((Nat.log2_eq_iff h).1 rfl).2
theorem blen_ge {n : Nat} (h : 0 < n) : 2 ^ (blen n - 1) ≤ n := by
  unfold blen
  rw [if_neg (by omega), Nat.add_sub_cancel]
  exact ((Nat.log2_eq_iff (by omega)).1 rfl).1
theorem blen_len {n k : Nat} (h : (lims 4294967296 n).length ≤ k) : blen n ≤ 32 * k := by
  rcases Nat.eq_zero_or_pos n with rfl | hn
  · simp [blen]
  · have h1 := (lims_len_le w32_ge n _).1 h
    have h2 := blen_ge hn
    rcases Nat.lt_or_ge (32 * k) (blen n) with h3 | h3
    · have e : (4294967296 : Nat) ^ k = 2 ^ (32 * k) := by rw [Nat.pow_mul]
      rw [e] at h1
      have h4 : 2 ^ (32 * k) ≤ 2 ^ (blen n - 1) := Nat.pow_le_pow_right (by omega) (by omega)
      exact absurd (Nat.lt_of_lt_of_le h1 (Nat.le_trans h4 h2)) (Nat.lt_irrefl _)
    · exact h3
theorem blen_le {n : Nat} (h : (lims 4294967296 n).length ≤ 100000) : blen n ≤ 3200000 := blen_len h
set_option maxRecDepth 100000 in
set_option maxHeartbeats 800000 in
theorem length_any (B n : Nat) (v : Value) (w : World) (h : NatIs w B v n) (hl : (lims 4294967296 n).length ≤ 100000) :
    Calls Tryd.prog 115 #[v] w fun e w' => e = .returned (.int .i64 (blen n : Int)) ∧ w = w' := by
  rcases Nat.eq_zero_or_pos n with rfl | hn
  · obtain ⟨ao, c, rfl⟩ := h.slice
    rw [lims_zero]
    go_enter Tryd.func115, Tryd.ntmps115
    go_wp2
    go_ret
    exact ⟨rfl, rfl⟩
  · obtain ⟨ao, c, rfl, hr⟩ := h.reads hl
    have hne : lims 4294967296 n ≠ [] := fun e => by have := (lims_nil w32_ge).1 e; omega
    have hlast := lims_last w32_ge n hne
    have hsm := lims_lt w32_ge n
    have hev := ev_lims w32_ge n
    have htake := ev_take_succ 4294967296 (lims 4294967296 n) ((lims 4294967296 n).length - 1)
    have hlow := ev_take_lt (B := 4294967296) (by decide) hsm ((lims 4294967296 n).length - 1)
    have hgetl := lims_getD w32_ge n ((lims 4294967296 n).length - 1)
    have hpos : 0 < (lims 4294967296 n).length := List.length_pos_iff.2 hne
    rw [Nat.sub_add_cancel hpos, List.take_length, hev] at htake
    have htop : (lims 4294967296 n).getD ((lims 4294967296 n).length - 1) 0 = (lims 4294967296 n).getLast hne := by
      rw [List.getD_eq_getElem?_getD, List.getElem?_eq_getElem (by omega), List.getLast_eq_getElem]; rfl
    rw [htop] at htake hgetl
    have htl := hsm _ (List.getLast_mem hne)
    revert hlast htake hlow hgetl htl hpos hr hl
    generalize (lims 4294967296 n).getLast hne = top
    generalize ev 4294967296 (List.take ((lims 4294967296 n).length - 1) (lims 4294967296 n)) = low
    generalize (lims 4294967296 n).length = la
    intro hl hr hlast htake hlow hgetl hpos htl
    obtain ⟨g, rfl, hg, hc⟩ := hr.2.1 (la - 1) (by omega)
    rw [← hgetl] at hc
    obtain ⟨b1, b2, b3, b4⟩ := bitLen_is top htl (by omega)
    have HL := Lib.hid (show n < 2 ^ (32 * (la - 1) + Lib.bitLen top) ∧ 2 ^ (32 * (la - 1) + Lib.bitLen top - 1) ≤ n by
      have e : (4294967296 : Nat) ^ (la - 1) = 2 ^ (32 * (la - 1)) := by rw [Nat.pow_mul]
      rw [e] at htake hlow
      have e2 : 32 * (la - 1) + Lib.bitLen top - 1 = 32 * (la - 1) + (Lib.bitLen top - 1) := by omega
      rw [e2, Nat.pow_add, Nat.pow_add]
      have h1 : 2 ^ (32 * (la - 1)) * (top + 1) ≤ 2 ^ (32 * (la - 1)) * 2 ^ Lib.bitLen top := Nat.mul_le_mul_left _ b1
      have h2 : 2 ^ (32 * (la - 1)) * 2 ^ (Lib.bitLen top - 1) ≤ 2 ^ (32 * (la - 1)) * top := Nat.mul_le_mul_left _ b2
      rw [Nat.mul_add, Nat.mul_one] at h1
      omega)
    have hlz := Tryd.bits_LeadingZeros32 (top : Int) w (by omega) (by omega)
    rw [Int.toNat_natCast] at hlz
    obtain ⟨bl, hbl⟩ : ∃ bl, Lib.bitLen top = bl := ⟨_, rfl⟩
    rw [hbl] at HL hlz b3 b4
    have hi1 : (la : Int) - 1 = ((la - 1 : Nat) : Int) := by omega
    obtain ⟨k, hk⟩ : ∃ k, la - 1 = k := ⟨_, rfl⟩
    rw [hk] at hi1 hc HL
    have hk2 : (k : Int) < (la : Int) := by omega
    have hlE : ((la : Int) == 0) = false := by simp; omega
    have hfin : 32 * (la : Int) - (32 - (bl : Int)) = ((32 * k + bl : Nat) : Int) := by omega
    have HF := Lib.hid hfin
    have HB := Lib.hid (blen_eq HL.out.1 HL.out.2 hn (by omega))
    have Hi1 := Lib.hid hi1
    have HZ := Lib.hid hlz
    clear hfin hlz htake hlow hgetl hbl b1 b2 hk hr htop hev h hsm hlast htl
    go_enter Tryd.func115, Tryd.ntmps115
    go_wp2_with (go_at_call 130; refine HZ.out.mono ?_; rintro e w' ⟨rfl, rfl⟩)
    go_ret
    refine ⟨?_, rfl⟩
    rw [HB.out, ← HF.out]
    rfl

/-- The least number that has more digits than a number may have. -/
def k600 : Nat := 600
def k1987 : Nat := 1987
def k2008 : Nat := 2008
def lim600 : Nat := 10 ^ k600
def tooL (n : Nat) : Bool := decide (lim600 ≤ n)
theorem tooL_digs {n : Nat} (hn : 0 < n) : (600 < (digs 10 n).length) ↔ tooL n = true := by
  have h : (digs 10 n).length = (lims 10 n).length := by unfold digs; rw [if_neg (by omega)]; simp
  have h2 := lims_len_le (B := 10) (by omega) n k600
  have h3 : (10 : Nat) ^ k600 = lim600 := rfl
  have h4 : k600 = 600 := rfl
  rw [h3] at h2
  unfold tooL
  rw [h, decide_eq_true_eq]
  omega
theorem p1 : 2 ^ k1987 ≤ lim600 := by decide +kernel
theorem p2 : lim600 ≤ 2 ^ k2008 := by decide +kernel
theorem tooL_short {n L : Nat} (h : n < 2 ^ L) (hL : L ≤ 1987) : tooL n = false := by
  have h1 : 2 ^ L ≤ 2 ^ k1987 := Nat.pow_le_pow_right (by omega) hL
  exact decide_eq_false (Nat.not_le.2 (Nat.lt_of_lt_of_le h (Nat.le_trans h1 p1)))
theorem tooL_long {n L : Nat} (h : 2 ^ (L - 1) ≤ n) (hL : 2009 ≤ L) : tooL n = true := by
  have h1 : 2 ^ k2008 ≤ 2 ^ (L - 1) := Nat.pow_le_pow_right (by omega) (by unfold k2008; omega)
  exact decide_eq_true (Nat.le_trans p2 (Nat.le_trans h1 h))
theorem lims10_len {n L : Nat} (h : n < 2 ^ L) (hL : L ≤ 4000000) : (lims 10 n).length ≤ 4000000 := by
  have h1 : n < 10 ^ L := Nat.lt_of_lt_of_le h (Nat.pow_le_pow_left (by omega) L)
  have := (lims_len_le (B := 10) (by omega) n L).2 h1
  omega
/-- What tooLong answers, by the length in bits and the digits. -/
theorem tooL_cases (n : Nat) : (blen n < 1988 ∧ tooL n = false) ∨ (2008 < blen n ∧ tooL n = true) ∨ (1988 ≤ blen n ∧ blen n ≤ 2008 ∧ 0 < n ∧ tooL n = decide (600 < (digs 10 n).length)) := by
  rcases Nat.lt_or_ge (blen n) 1988 with h | h
  · exact .inl ⟨h, tooL_short (blen_lt n) (by omega)⟩
  · have hn : 0 < n := by
      rcases Nat.eq_zero_or_pos n with h0 | h0
      · subst h0; simp [blen] at h
      · exact h0
    rcases Nat.lt_or_ge 2008 (blen n) with h2 | h2
    · exact .inr (.inl ⟨h2, tooL_long (blen_ge hn) h2⟩)
    · refine .inr (.inr ⟨h, h2, hn, ?_⟩)
      have := tooL_digs hn
      cases ht : tooL n with
      | true => rw [ht] at this; exact (decide_eq_true (this.2 rfl)).symm
      | false => rw [ht] at this; exact (decide_eq_false (fun h => by have := this.1 h; cases this)).symm

set_option maxRecDepth 100000 in
set_option maxHeartbeats 800000 in
theorem tooLong_any (B n : Nat) (v : Value) (w : World) (h : NatIs w B v n) (hl : (lims 4294967296 n).length ≤ 100000) :
    Calls Tryd.prog 113 #[v] w fun e w' => e = .returned (.bool (tooL n)) ∧ Below w.heap.size w w' := by
  have hlen := length_any B n v w h hl
  have hdp := fun (hn : 0 < n) (h4 : blen n ≤ 2008) => digits_pos B v 10 n w h hn (by omega) (by omega) hl (lims10_len (blen_lt n) (by omega))
  have hc := tooL_cases n
  obtain ⟨ao, c, rfl⟩ := h.slice
  obtain ⟨la, hla⟩ : ∃ la, (lims 4294967296 n).length = la := ⟨_, rfl⟩
  rw [hla] at hlen hdp ⊢
  clear hla h hl
  revert hlen hdp hc
  generalize tooL n = t
  generalize blen n = L
  generalize digs 10 n = D
  intro hc hdp hlen
  have HD := Lib.hid hdp
  clear hdp
  rcases hc with ⟨h1, rfl⟩ | ⟨h1, rfl⟩ | ⟨h1, h2, h3, ht⟩
  · go_enter Tryd.func113, Tryd.ntmps113
    go_wp2_with (go_at_call 115; refine hlen.mono ?_; rintro e w' ⟨rfl, rfl⟩)
    go_ret
    exact ⟨rfl, Below.refl _ _⟩
  · have g : 1988 ≤ L := by omega
    go_enter Tryd.func113, Tryd.ntmps113
    go_wp2_with (go_at_call 115; refine hlen.mono ?_; rintro e w' ⟨rfl, rfl⟩)
    go_ret
    exact ⟨rfl, Below.refl _ _⟩
  · have HT := Lib.hid ht
    have hlD : (⟨D.toArray⟩ : ByteArray).size = D.length := by simp [ByteArray.size]
    clear ht
    go_enter Tryd.func113, Tryd.ntmps113
    go_wp2_with (first | (go_at_call 115; refine hlen.mono ?_; rintro e w' ⟨rfl, rfl⟩) | (go_at_call 93; refine (HD.out h3 h2).mono ?_; rintro e w1 ⟨rfl, hb1⟩))
    all_goals
      go_ret
      refine ⟨?_, hb1⟩
      rw [HT.out]
      show Ending.returned (.bool (decide (2008 < (L : Int)) || decide (600 < (D.length : Int)))) = _
      have e1 : decide (2008 < (L : Int)) = false := by simp; omega
      have e2 : decide (600 < (D.length : Int)) = decide (600 < D.length) := by
        by_cases h : 600 < D.length
        · rw [decide_eq_true h, decide_eq_true (by omega)]
        · rw [decide_eq_false h, decide_eq_false (by omega)]
      rw [e1, e2, Bool.false_or]
end Go.Proofs.YtmnibfdenmeepaaDoor
/- ofDigits of the program. -/
namespace Go.Proofs.YtmnibfdenmeepaaDoor
open Go.RowKit Go.Shelf Big

/-- A block with its cells. -/
def Has (w : World) (g : Nat) (t : TypeId) (cs : Array Value) : Prop := w.heap[g]? = some (.cells cs t (0, 0))
theorem Has.lt {w : World} {g : Nat} {t : TypeId} {cs : Array Value} (h : Has w g t cs) : g < w.heap.size := (Array.getElem?_eq_some_iff.1 h).1
theorem Has.cell {w : World} {g : Nat} {t : TypeId} {cs : Array Value} (h : Has w g t cs) (i : Nat) : w.cell? ⟨g, i, none⟩ = cs[i]? := cell_of_row w g i cs t (0, 0) h
theorem Has.free {w : World} {g : Nat} {t : TypeId} {cs : Array Value} (h : Has w g t cs) (i : Nat) : w.frozen? ⟨g, i, none⟩ = false := frozen_of_row w g i cs t h
theorem Has.new (w : World) (t : TypeId) (cs : Array Value) : Has (w.alloc (.cells cs t)) w.heap.size t cs := heap_alloc_new w _
theorem Has.new' {w : World} {n : Nat} (h : w.heap.size = n) (t : TypeId) (cs : Array Value) : Has (w.alloc (.cells cs t)) n t cs := by rw [← h]; exact heap_alloc_new w _
theorem Has.alloc {w : World} {g : Nat} {t : TypeId} {cs : Array Value} (h : Has w g t cs) (o : Obj) : Has (w.alloc o) g t cs := (Below.heap_alloc w o g h.lt).trans h
theorem Has.far {w : World} {g : Nat} {t : TypeId} {cs : Array Value} (h : Has w g t cs) {p : Addr} (hp : g ≠ p.block) (u : Value) : Has (w.setCell p u) g t cs := (Below.heap_setCell w p u g hp).trans h
theorem Has.below {w w' : World} {g : Nat} {t : TypeId} {cs : Array Value} (h : Has w g t cs) (hb : Below w.heap.size w w') : Has w' g t cs := (hb.block g h.lt).trans h
theorem Has.drew {w : World} {g : Nat} {t : TypeId} {cs : Array Value} (h : Has w g t cs) : Has w.drew g t cs := h
theorem Has.four {w : World} {g : Nat} {t : TypeId} {a b c d : Value} (h : Has w g t #[a, b, c, d]) : w.cell? ⟨g, 0, none⟩ = some a ∧ w.cell? ⟨g, 1, none⟩ = some b ∧ w.cell? ⟨g, 2, none⟩ = some c ∧ w.cell? ⟨g, 3, none⟩ = some d ∧ w.frozen? ⟨g, 0, none⟩ = false ∧ w.frozen? ⟨g, 1, none⟩ = false ∧ w.frozen? ⟨g, 2, none⟩ = false ∧ w.frozen? ⟨g, 3, none⟩ = false :=
  ⟨h.cell 0, h.cell 1, h.cell 2, h.cell 3, h.free 0, h.free 1, h.free 2, h.free 3⟩

/-- A struct `number`. -/
def numV (s : Bool) (v : Value) (l o : Bool) : Value := .agg #[.bool s, v, .bool l, .bool o]
/-- No number. -/
def noNum (e : Ending) : Prop := e = .returned (.tuple #[.agg #[.bool false, .slice none 0 0, .bool false, .bool false], .bool false])
/-- A number was read. -/
def IsNum (B : Nat) (s : Bool) (n : Nat) (w' : World) (e : Ending) : Prop := ∃ v, e = .returned (.tuple #[.agg #[.bool s, v, .bool (tooL n), .bool (decide (n % 2 = 1))], .bool true]) ∧ NatIs w' B v n

theorem okn_iff (b : Nat) (l : List UInt8) : okn b l = true ↔ l ≠ [] ∧ Okb b l := by
  unfold okn Okb
  simp [List.all_eq_true]

set_option maxRecDepth 100000 in
set_option maxHeartbeats 4000000 in
theorem ofDigits_no (s : ByteArray) (b : Nat) (below : Bool) (w : World) (hs : s.size ≤ 1000) (hb : 2 ≤ b) (hb2 : b ≤ 36) (h : okn b s.data.toList = false) :
    Calls Tryd.prog 96 #[.string s, .int .i64 (b : Int), .bool below] w fun e w' => noNum e ∧ Below w.heap.size w w' := by
  have HN := Lib.hid (show ¬ (s.data.toList ≠ [] ∧ Okb b s.data.toList) by rw [← okn_iff, h]; simp)
  clear h
  by_cases hE : s.toList.isEmpty = true
  · go_enter Tryd.func96, Tryd.ntmps96
    go_wp2
    exact bodyPost_ret (v := .tuple #[.agg #[.bool false, .slice none 0 0, .bool false, .bool false], .bool false]) (by simp [results, Tryd.results96, go_sem]) rfl ⟨rfl, (Below.refl _ _).alloc (Nat.le_refl _) _⟩
  · have hp := size_pos hE
    have hE' : s.toList.isEmpty = false := by simpa using hE
    clear hE
    go_enter Tryd.func96, Tryd.ntmps96
    go_wp2
    go_loopg [8, 18] s.size (fun g v8 v18 wx => wx = w.alloc (.cells #[.bool false, .slice none 0 0, .bool false, .bool false] 46) ∧ ∃ i o : Nat, v18 = .int .i64 (i : Int) ∧ i + g = s.size ∧ v8 = .int .i64 (o : Int) ∧ o ≤ 1 ∧ Okb b (s.data.toList.take i))
    case atStart => exact ⟨rfl, 0, 0, rfl, by omega, rfl, by omega, fun c hc => by simp at hc⟩
    case round =>
      obtain ⟨rfl, i, o, rfl, hig, rfl, ho, hok⟩ := hrel
      have HK := Lib.hid hok
      clear hok
      by_cases hi : i < s.size
      · have t1 : (i : Int) < (s.size : Int) := by omega
        have htk := take_snoc s i hi
        obtain ⟨c, hc⟩ : ∃ c, s[i] = c := ⟨_, rfl⟩
        rw [hc] at htk
        have HC := Lib.hid hc
        obtain ⟨d, hd⟩ : ∃ d, dg c = d := ⟨_, rfl⟩
        have hdig := fun W => digit_any c W
        simp only [hd] at hdig
        have HD := Lib.hid hdig
        clear hc hdig
        by_cases hdb : d < b
        · have HT := Lib.hid (show Okb b (s.data.toList.take (i + 1)) by
            rw [htk]
            intro x hx
            rcases List.mem_append.1 hx with hx | hx
            · exact HK.out x hx
            · simp at hx; rw [hx, hd]; exact hdb)
          have t2 : ¬ (d : Int) ≥ (b : Int) := by omega
          have m1 : (o : Int) * (b : Int) = ((o * b : Nat) : Int) := (Int.natCast_mul _ _).symm
          have hob : o * b ≤ 1 * b := Nat.mul_le_mul_right _ ho
          obtain ⟨Q, hQ⟩ : ∃ Q, o * b = Q := ⟨_, rfl⟩
          rw [hQ] at m1 hob
          have hmi : ((Q : Int) + (d : Int)) % 2 = (((Q + d) % 2 : Nat) : Int) := by omega
          obtain ⟨g, rfl⟩ : ∃ g, gk = g + 1 := ⟨gk - 1, by omega⟩
          clear hQ htk hd
          go_wp2_with (go_at_call 120; rw [HC.out]; refine (HD.out _).mono ?_; rintro e w' ⟨rfl, rfl⟩)
          go_roundg g
          case measure => omega
          case rel => exact ⟨rfl, i + 1, (Q + d) % 2, by go_num, by omega, by rw [hmi], by omega, HT.out⟩
        · have t2 : (d : Int) ≥ (b : Int) := by omega
          clear htk hd
          go_wp2_with (go_at_call 120; rw [HC.out]; refine (HD.out _).mono ?_; rintro e w' ⟨rfl, rfl⟩)
          exact bodyPost_ret (v := .tuple #[.agg #[.bool false, .slice none 0 0, .bool false, .bool false], .bool false]) (by simp [results, Tryd.results96, go_sem]) rfl ⟨rfl, (Below.refl _ _).alloc (Nat.le_refl _) _⟩
      · exfalso
        have : s.data.toList.take i = s.data.toList := List.take_of_length_le (by rw [← Lib.size_eq]; omega)
        rw [this] at HK
        exact HN.out ⟨fun h => by rw [Lib.size_eq, h] at hp; simp at hp, HK.out⟩

theorem grownBy_refl (w : World) (r : Option Nat) : w.grownBy w r := ⟨rfl, rfl, rfl, Nat.le_refl _, fun _ _ _ => rfl⟩
theorem NatIs.far {w : World} {B n b : Nat} {v : Value} (h : NatIs w B v n) (hb : b < B) (i : Nat) (u : Value) : NatIs (w.setCell ⟨b, i, none⟩ u) B v n :=
  World.ownsRow.kept h (grown_put (grownBy_refl w (some b)) i u) (by
    rcases hv : v.ownBlock with _ | g
    · exact .inl rfl
    · refine .inr ?_
      have := (World.ownsRow.lt h g hv).1
      intro e
      cases e
      omega)

theorem NatIs.far4 {w : World} {B n b : Nat} {v : Value} (h : NatIs w B v n) (hb : b < B) (a c d e : Value) : NatIs ((((w.setCell ⟨b, 0, none⟩ a).setCell ⟨b, 1, none⟩ c).setCell ⟨b, 2, none⟩ d).setCell ⟨b, 3, none⟩ e) B v n :=
  (((h.far hb 0 a).far hb 1 c).far hb 2 d).far hb 3 e
theorem Below.four {B b : Nat} {w w' : World} (h : Below B w w') (hb : B ≤ b) (a c d e : Value) : Below B w ((((w'.setCell ⟨b, 0, none⟩ a).setCell ⟨b, 1, none⟩ c).setCell ⟨b, 2, none⟩ d).setCell ⟨b, 3, none⟩ e) :=
  (((h.setCell (p := ⟨b, 0, none⟩) hb a).setCell (p := ⟨b, 1, none⟩) hb c).setCell (p := ⟨b, 2, none⟩) hb d).setCell (p := ⟨b, 3, none⟩) hb e

theorem odd_step (b o r d : Nat) (h : o = r % 2) : (o * b + d) % 2 = (r * b + d) % 2 := by
  subst h
  rw [Nat.add_mod, Nat.mod_mul_mod, ← Nat.add_mod]

set_option maxRecDepth 100000 in
set_option maxHeartbeats 8000000 in
theorem ofDigits_ok (s : ByteArray) (b : Nat) (below : Bool) (w : World) (hs : s.size ≤ 1000) (hb : 2 ≤ b) (hb2 : b ≤ 36) (h : okn b s.data.toList = true) :
    Calls Tryd.prog 96 #[.string s, .int .i64 (b : Int), .bool below] w fun e w' => IsNum w.heap.size (below && decide (0 < rdn b s.data.toList)) (rdn b s.data.toList) w' e ∧ Below w.heap.size w w' := by
  obtain ⟨hne, hok⟩ := (okn_iff _ _).1 h
  have HOK := Lib.hid hok
  have hlt := rdn_lt hok
  have hshort : (lims 4294967296 (rdn b s.data.toList)).length ≤ 100000 := lims_short (k := s.data.toList.length) (Nat.lt_of_lt_of_le hlt (pow_short b _ hb2)) (by rw [← Lib.size_eq]; omega)
  have hE' : s.toList.isEmpty = false := by
    cases h : s.toList.isEmpty with
    | false => rfl
    | true => exact absurd ((empty_iff s).1 h) hne
  have hread := fun W => read_any s b W hs hb hb2 hok
  have HR := Lib.hid hread
  have HSH := Lib.hid hshort
  clear hne hok h hlt hread hshort
  go_enter Tryd.func96, Tryd.ntmps96
  go_wp2
  go_loopg [8, 18] s.size (fun g v8 v18 wx => wx = w.alloc (.cells #[.bool false, .slice none 0 0, .bool false, .bool false] 46) ∧ ∃ i o : Nat, v18 = .int .i64 (i : Int) ∧ i + g = s.size ∧ v8 = .int .i64 (o : Int) ∧ o ≤ 1 ∧ o = rdn b (s.data.toList.take i) % 2)
  case atStart => exact ⟨rfl, 0, 0, rfl, by omega, rfl, by omega, rfl⟩
  case round =>
    obtain ⟨rfl, i, o, rfl, hig, rfl, ho, hro⟩ := hrel
    have HO := Lib.hid hro
    clear hro
    by_cases hi : i < s.size
    · have t1 : (i : Int) < (s.size : Int) := by omega
      have htk := take_snoc s i hi
      have hdb := HOK.out s[i] (List.getElem_mem (l := s.data.toList) (n := i) (by rw [← Lib.size_eq]; exact hi))
      obtain ⟨c, hc⟩ : ∃ c, s[i] = c := ⟨_, rfl⟩
      rw [hc] at htk hdb
      have HC := Lib.hid hc
      obtain ⟨d, hd⟩ : ∃ d, dg c = d := ⟨_, rfl⟩
      have hdig := fun W => digit_any c W
      simp only [hd] at hdig
      have HD := Lib.hid hdig
      rw [hd] at hdb
      have HT := Lib.hid (show (o * b + d) % 2 = rdn b (s.data.toList.take (i + 1)) % 2 by rw [htk, rdn_snoc, hd]; exact odd_step _ _ _ _ HO.out)
      have t2 : ¬ (d : Int) ≥ (b : Int) := by omega
      have m1 : (o : Int) * (b : Int) = ((o * b : Nat) : Int) := (Int.natCast_mul _ _).symm
      have hob : o * b ≤ 1 * b := Nat.mul_le_mul_right _ ho
      obtain ⟨Q, hQ⟩ : ∃ Q, o * b = Q := ⟨_, rfl⟩
      rw [hQ] at m1 hob HT
      have hmi : ((Q : Int) + (d : Int)) % 2 = (((Q + d) % 2 : Nat) : Int) := by omega
      obtain ⟨g, rfl⟩ : ∃ g, gk = g + 1 := ⟨gk - 1, by omega⟩
      clear hQ htk hd hc hdig
      go_wp2_with (go_at_call 120; rw [HC.out]; refine (HD.out _).mono ?_; rintro e w' ⟨rfl, rfl⟩)
      go_roundg g
      case measure => omega
      case rel => exact ⟨rfl, i + 1, (Q + d) % 2, by go_num, by omega, by rw [hmi], by omega, HT.out⟩
    · have hoo : o = rdn b s.data.toList % 2 := by
        have : s.data.toList.take i = s.data.toList := List.take_of_length_le (by rw [← Lib.size_eq]; omega)
        have h := HO.out
        rwa [this] at h
      have hil : (lims 4294967296 (rdn b s.data.toList)).length = 0 ↔ rdn b s.data.toList = 0 := by
        rw [List.length_eq_zero_iff, lims_nil w32_ge]
      obtain ⟨n, hnn⟩ : ∃ n, rdn b s.data.toList = n := ⟨_, rfl⟩
      rw [hnn] at HR HSH hoo hil
      have HNN := Lib.hid hnn
      clear hnn
      have HOO := Lib.hid hoo
      have HIL := Lib.hid hil
      clear hoo hil HO
      obtain ⟨lv, hlv⟩ : ∃ lv, (lims 4294967296 n).length = lv := ⟨_, rfl⟩
      have HLV := Lib.hid hlv
      rw [hlv] at HIL
      clear hlv
      have hpos : (0 < n ∧ 0 < lv) ∨ (n = 0 ∧ lv = 0) := by have := HIL.out; omega
      rcases hpos with ⟨hn0, hl0⟩ | ⟨hn0, hl0'⟩
      case' inr =>
        have hl0 : decide (0 < lv) = false := by simp; omega
        have hl1 : decide ((0 : Int) < (lv : Int)) = false := by simp; omega
        have Hn0 := Lib.hid hn0
        clear hl0' hn0
        have hn0 := Hn0
      all_goals
        cases below
      all_goals
        go_wp2_with (first
          | (go_at_call 121; refine (HR.out _).mono ?_; rintro e w3 ⟨⟨v, rfl, hn⟩, hb3⟩; obtain ⟨av, cv, hv⟩ := hn.slice; rw [HLV.out] at hv; subst hv)
          | (go_at_call 113; refine (tooLong_any _ _ _ _ hn HSH.out).mono ?_; rintro e w4 ⟨rfl, hb4⟩; have hn4 := hn.kept hb4; have hb5 := hb3.trans (hb4.mono hb3.size); have hz5 := hb5.size; obtain ⟨q0, q1, q2, q3, q4, q5, q6, q7⟩ := ((Has.new w 46 #[.bool false, .slice none 0 0, .bool false, .bool false]).below hb5).four))
        have hn5 := fun a c d e => (hn4.far4 (b := w.heap.size) (by simp) a c d e).mono (B' := w.heap.size) (by simp)
        have hb6 := fun a c d e => Below.four (b := w.heap.size) (((Below.refl w.heap.size w).alloc (Nat.le_refl _) (.cells #[.bool false, .slice none 0 0, .bool false, .bool false] 46)).trans (hb5.mono (by simp))) (Nat.le_refl _) a c d e
        have hoe : ((o : Int) == 1) = decide (n % 2 = 1) := by
          rw [HOO.out]
          by_cases h : n % 2 = 1
          · rw [h]; rfl
          · have : ((n % 2 : Nat) : Int) ≠ 1 := by omega
            rw [decide_eq_false h]
            simpa using this
        clear hb5 hn4
        first
          | (refine bodyPost_ret (v := .tuple #[.agg #[.bool false, .slice av lv cv, .bool (tooL n), .bool ((o : Int) == 1)], .bool true]) ?_ rfl ?_; focus (simp [results, Tryd.results96, go_sem, World.cell?_setCell_same', q0, q1, q2, q3]; done))
          | (refine bodyPost_ret (v := .tuple #[.agg #[.bool true, .slice av lv cv, .bool (tooL n), .bool ((o : Int) == 1)], .bool true]) ?_ rfl ?_; focus (simp [results, Tryd.results96, go_sem, World.cell?_setCell_same', q0, q1, q2, q3]; done))
        rw [HNN.out]
        refine ⟨⟨_, ?_, hn5 _ _ _ _⟩, hb6 _ _ _ _⟩
        rw [hoe]
        first | rfl | (simp [hn0]; done) | (rw [Hn0.out]; rfl)
end Go.Proofs.YtmnibfdenmeepaaDoor
/- parse of the program. -/
namespace Go.Proofs.YtmnibfdenmeepaaDoor
open Go.RowKit Go.Shelf Big

/-- What ofDigits answers. -/
def OfIs (B b : Nat) (below : Bool) (l : List UInt8) (w' : World) (e : Ending) : Prop :=
  (okn b l = false ∧ noNum e) ∨ (okn b l = true ∧ IsNum B (below && decide (0 < rdn b l)) (rdn b l) w' e)
theorem ofDigits_any (s : ByteArray) (b : Nat) (below : Bool) (w : World) (hs : s.size ≤ 1000) (hb : 2 ≤ b) (hb2 : b ≤ 36) :
    Calls Tryd.prog 96 #[.string s, .int .i64 (b : Int), .bool below] w fun e w' => OfIs w.heap.size b below s.data.toList w' e ∧ Below w.heap.size w w' := by
  cases h : okn b s.data.toList with
  | false => exact (ofDigits_no s b below w hs hb hb2 h).mono fun e w' ⟨h1, h2⟩ => ⟨.inl ⟨h, h1⟩, h2⟩
  | true => exact (ofDigits_ok s b below w hs hb hb2 h).mono fun e w' ⟨h1, h2⟩ => ⟨.inr ⟨h, h1⟩, h2⟩
theorem OfIs.form {B b : Nat} {sg : Bool} {l : List UInt8} {w' : World} {e : Ending} (h : OfIs B b sg l w' e) :
    ∃ (s : Bool) (av : Option Addr) (n c : Nat) (lg od t : Bool), e = .returned (.tuple #[.agg #[.bool s, .slice av n c, .bool lg, .bool od], .bool t]) ∧
      ∀ (k : Nat) (x y z u : Value), k < B → OfIs B b sg l ((((w'.setCell ⟨k, 0, none⟩ x).setCell ⟨k, 1, none⟩ y).setCell ⟨k, 2, none⟩ z).setCell ⟨k, 3, none⟩ u) e := by
  rcases h with ⟨h1, h2⟩ | ⟨h1, v, h2, hn⟩
  · exact ⟨false, none, 0, 0, false, false, false, h2, fun k x y z u _ => .inl ⟨h1, h2⟩⟩
  · obtain ⟨av, c, rfl⟩ := hn.slice
    exact ⟨_, av, _, c, _, _, true, h2, fun k x y z u hk => .inr ⟨h1, _, h2, hn.far4 hk x y z u⟩⟩
theorem OfIs.mono {B B' b : Nat} {sg : Bool} {l : List UInt8} {w' : World} {e : Ending} (h : OfIs B b sg l w' e) (hB : B' ≤ B) : OfIs B' b sg l w' e := by
  rcases h with h | ⟨h1, v, h2, hn⟩
  · exact .inl h
  · exact .inr ⟨h1, v, h2, NatIs.mono hn hB⟩
/-- What parse answers. -/
def ParseIs (B : Nat) (l : List UInt8) (w' : World) (e : Ending) : Prop :=
  (numOf l = none ∧ noNum e) ∨ (∃ z : Int, numOf l = some z ∧ IsNum B (decide (z < 0)) z.natAbs w' e)
theorem parseIs_of {B b : Nat} {sg : Bool} {l r : List UInt8} {w' : World} {e : Ending} (hs : (sgnOf (strip l)).1 = sg) (hb : basOf (sgnOf (strip l)).2 = (b, r)) (h : OfIs B b sg r w' e) : ParseIs B l w' e := by
  unfold ParseIs numOf
  rw [hb, hs]
  rcases h with ⟨h1, h2⟩ | ⟨h1, h2⟩
  · left
    rw [if_neg (by rw [h1]; simp)]
    exact ⟨rfl, h2⟩
  · right
    rw [if_pos h1]
    refine ⟨_, rfl, ?_⟩
    have e1 : decide (sgI sg (rdn b r) < 0) = (sg && decide (0 < rdn b r)) := by
      unfold sgI
      cases sg <;> simp
    have e2 : (sgI sg (rdn b r)).natAbs = rdn b r := by
      unfold sgI
      cases sg <;> simp
    rw [e1, e2]
    exact h2

theorem last_split (T : ByteArray) (j : Nat) (h : j < T.size) (hj : T.size = j + 1) : T.data.toList.reverse = T[j] :: (T.data.toList.take j).reverse := by
  have hl : T.data.toList.length = T.size := (Lib.size_eq T).symm
  have h' : j < T.data.toList.length := by omega
  have h2 := List.take_succ_eq_append_getElem h'
  rw [List.take_of_length_le (by omega)] at h2
  conv => lhs; rw [h2]
  rw [List.reverse_append]
  rfl
def stripR (l : List UInt8) : List UInt8 := (l.reverse.dropWhile wht).reverse
theorem strip_eq (l : List UInt8) : strip l = stripR (l.dropWhile wht) := rfl

theorem one_more (S : ByteArray) (_h : 0 < S.size) : (S.extract 1 S.size).data.toList = S.data.toList.drop 1 := by
  rw [Lib.extract_data, List.take_of_length_le (by rw [List.length_drop, ← Lib.size_eq]; exact Nat.le_refl _)]
theorem two_more (S : ByteArray) (_h : 1 < S.size) : (S.extract 2 S.size).data.toList = S.data.toList.drop 2 := by
  rw [Lib.extract_data, List.take_of_length_le (by rw [List.length_drop, ← Lib.size_eq]; exact Nat.le_refl _)]
theorem u8_ne (c : UInt8) (n : Nat) (hn : n < 256) (h : c.toNat ≠ n) : c ≠ UInt8.ofNat n := by
  rintro rfl
  exact h (by rw [UInt8.toNat_ofNat']; omega)
theorem u8_of (c : UInt8) (n : Nat) (h : c.toNat = n) : c = UInt8.ofNat n := by
  rw [← h]; exact (UInt8.ofNat_toNat).symm
/-- The sign, by the first byte. -/
theorem sgn_cases (S : ByteArray) : (S.toList.isEmpty = true ∧ sgnOf S.data.toList = (false, S.data.toList)) ∨
    (∃ h : 0 < S.size, S[0].toNat = 45 ∧ sgnOf S.data.toList = (true, (S.extract 1 S.size).data.toList)) ∨
    (∃ h : 0 < S.size, S[0].toNat ≠ 45 ∧ S[0].toNat = 43 ∧ sgnOf S.data.toList = (false, (S.extract 1 S.size).data.toList)) ∨
    (∃ h : 0 < S.size, S[0].toNat ≠ 45 ∧ S[0].toNat ≠ 43 ∧ sgnOf S.data.toList = (false, S.data.toList)) := by
  by_cases hE : S.toList.isEmpty = true
  · refine .inl ⟨hE, ?_⟩
    rw [(empty_iff S).1 hE]; rfl
  · have hp := size_pos hE
    have hsp := head_split S hp
    by_cases h1 : S[0].toNat = 45
    · refine .inr (.inl ⟨hp, h1, ?_⟩)
      rw [one_more S hp]
      conv => lhs; rw [hsp, u8_of _ _ h1]
      rfl
    · by_cases h2 : S[0].toNat = 43
      · refine .inr (.inr (.inl ⟨hp, h1, h2, ?_⟩))
        rw [one_more S hp]
        conv => lhs; rw [hsp, u8_of _ _ h2]
        rfl
      · refine .inr (.inr (.inr ⟨hp, h1, h2, ?_⟩))
        have n1 := u8_ne _ 45 (by omega) h1
        have n2 := u8_ne _ 43 (by omega) h2
        rw [hsp]
        generalize S[0] = c at n1 n2
        unfold sgnOf
        split
        · rename_i h; exact absurd (List.cons.inj h).1 n1
        · rename_i h; exact absurd (List.cons.inj h).1 n2
        · rfl

/-- The base, by the first two bytes. -/
theorem bas_cases (S : ByteArray) : (S.size ≤ 1 ∧ basOf S.data.toList = (10, S.data.toList)) ∨
    (∃ h : 1 < S.size, S[0].toNat ≠ 48 ∧ basOf S.data.toList = (10, S.data.toList)) ∨
    (∃ h : 1 < S.size, S[0].toNat = 48 ∧ S[1].toNat = 120 ∧ basOf S.data.toList = (16, (S.extract 2 S.size).data.toList)) ∨
    (∃ h : 1 < S.size, S[0].toNat = 48 ∧ S[1].toNat = 111 ∧ basOf S.data.toList = (8, (S.extract 2 S.size).data.toList)) ∨
    (∃ h : 1 < S.size, S[0].toNat = 48 ∧ S[1].toNat = 98 ∧ basOf S.data.toList = (2, (S.extract 2 S.size).data.toList)) ∨
    (∃ h : 1 < S.size, S[0].toNat = 48 ∧ S[1].toNat ≠ 120 ∧ S[1].toNat ≠ 111 ∧ S[1].toNat ≠ 98 ∧ basOf S.data.toList = (10, S.data.toList)) := by
  rcases Nat.lt_or_ge 1 S.size with hp | hp
  · have hl : 1 < S.data.toList.length := by rw [← Lib.size_eq]; exact hp
    have hsp : S.data.toList = S[0] :: S[1] :: S.data.toList.drop 2 := by
      have h1 := head_split S (by omega)
      have h2 := List.drop_eq_getElem_cons hl
      rw [h2] at h1
      exact h1
    by_cases h0 : S[0].toNat = 48
    · by_cases h1 : S[1].toNat = 120
      · refine .inr (.inr (.inl ⟨hp, h0, h1, ?_⟩))
        rw [two_more S hp]
        conv => lhs; rw [hsp, u8_of _ _ h0, u8_of _ _ h1]
        rfl
      · by_cases h2 : S[1].toNat = 111
        · refine .inr (.inr (.inr (.inl ⟨hp, h0, h2, ?_⟩)))
          rw [two_more S hp]
          conv => lhs; rw [hsp, u8_of _ _ h0, u8_of _ _ h2]
          rfl
        · by_cases h3 : S[1].toNat = 98
          · refine .inr (.inr (.inr (.inr (.inl ⟨hp, h0, h3, ?_⟩))))
            rw [two_more S hp]
            conv => lhs; rw [hsp, u8_of _ _ h0, u8_of _ _ h3]
            rfl
          · refine .inr (.inr (.inr (.inr (.inr ⟨hp, h0, h1, h2, h3, ?_⟩))))
            have n1 := u8_ne _ 120 (by omega) h1
            have n2 := u8_ne _ 111 (by omega) h2
            have n3 := u8_ne _ 98 (by omega) h3
            rw [hsp]
            generalize S[1] = c at n1 n2 n3
            generalize S[0] = d
            unfold basOf
            split
            · rename_i h; exact absurd (List.cons.inj (List.cons.inj h).2).1 n1
            · rename_i h; exact absurd (List.cons.inj (List.cons.inj h).2).1 n2
            · rename_i h; exact absurd (List.cons.inj (List.cons.inj h).2).1 n3
            · rfl
    · refine .inr (.inl ⟨hp, h0, ?_⟩)
      have n0 := u8_ne _ 48 (by omega) h0
      rw [hsp]
      generalize S[0] = d at n0
      unfold basOf
      split
      · rename_i h; exact absurd (List.cons.inj h).1 n0
      · rename_i h; exact absurd (List.cons.inj h).1 n0
      · rename_i h; exact absurd (List.cons.inj h).1 n0
      · rfl
  · refine .inl ⟨hp, ?_⟩
    have hl : S.data.toList.length ≤ 1 := by rw [← Lib.size_eq]; exact hp
    revert hl
    generalize S.data.toList = l
    intro hl
    match l, hl with
    | [], _ => rfl
    | [c], _ =>
      unfold basOf
      split <;> simp_all

set_option maxRecDepth 100000 in
set_option maxHeartbeats 8000000 in
theorem parse_any (s : ByteArray) (w : World) (hs : s.size ≤ 1000) :
    Calls Tryd.prog 57 #[.string s] w fun e w' => ParseIs w.heap.size s.data.toList w' e ∧ Below w.heap.size w w' := by
  go_enter Tryd.func57, Tryd.ntmps57
  go_upto_block 0 with fail
  go_cut [0] from 6 to 14 (fun v0 wx => wx = w.alloc (.cells #[.bool false, .slice none 0 0, .bool false, .bool false] 46) ∧ ∃ S : ByteArray, v0 = .string S ∧ S.size ≤ 1000 ∧ S.data.toList = s.data.toList.dropWhile wht)
  case first =>
    go_wp2_with fail
    go_loopg [0] s.size (fun g v0 wx => wx = w.alloc (.cells #[.bool false, .slice none 0 0, .bool false, .bool false] 46) ∧ ∃ S : ByteArray, v0 = .string S ∧ S.size = g ∧ g ≤ 1000 ∧ S.data.toList.dropWhile wht = s.data.toList.dropWhile wht)
    case atStart => exact ⟨rfl, s, rfl, rfl, hs, rfl⟩
    case round =>
      obtain ⟨rfl, S, rfl, hg, hg4, hT⟩ := hrel
      have HT := Lib.hid hT
      clear hT
      by_cases hE : S.toList.isEmpty = true
      · go_wp2
        go_meet
        refine ⟨rfl, S, rfl, by omega, ?_⟩
        rw [← HT.out, (empty_iff S).1 hE]
        rfl
      have hp := size_pos hE
      have hE' : S.toList.isEmpty = false := by simpa using hE
      clear hE
      have hp1 : (0 : Int) < (S.size : Int) := by omega
      have hp2 : (1 : Int) ≤ (S.size : Int) := by omega
      obtain ⟨c, hc0⟩ : ∃ c, S[0] = c := ⟨_, rfl⟩
      have HC0 := Lib.hid hc0
      have hc := fun W => white_any c W
      cases hh : wht c with
      | true =>
        simp only [hh] at hc
        have HC := Lib.hid hc
        have HN := Lib.hid (show (S.extract 1 S.size).data.toList.dropWhile wht = s.data.toList.dropWhile wht by
          rw [← HT.out, Lib.extract_data, List.take_of_length_le (by rw [List.length_drop, ← Lib.size_eq]; exact Nat.le_refl _)]
          conv => rhs; rw [head_split S hp, List.dropWhile_cons_of_pos (by rw [hc0]; exact hh)])
        obtain ⟨g, rfl⟩ : ∃ g, gk = g + 1 := ⟨gk - 1, by omega⟩
        have HG := Lib.hid hg
        clear hc hh hc0 hg
        go_wp2_with (go_at_call 106; rw [HC0.out]; refine (HC.out _).mono ?_; rintro e w' ⟨rfl, rfl⟩)
        go_roundg g
        case measure => omega
        case rel => exact ⟨rfl, S.extract 1 S.size, rfl, by have := HG.out; simp; omega, by omega, HN.out⟩
      | false =>
        simp only [hh] at hc
        have HC := Lib.hid hc
        have HN := Lib.hid (show S.data.toList = s.data.toList.dropWhile wht by
          rw [← HT.out]
          conv => rhs; rw [head_split S hp, List.dropWhile_cons_of_neg (by rw [hc0, hh]; simp), ← head_split S hp])
        clear hc hh hc0
        go_wp2_with (go_at_call 106; rw [HC0.out]; refine (HC.out _).mono ?_; rintro e w' ⟨rfl, rfl⟩)
        go_meet
        exact ⟨rfl, S, rfl, by omega, HN.out⟩
  case rest =>
    obtain ⟨rfl, S1, rfl, hS1, hD⟩ := hcut
    have HD := Lib.hid hD
    clear hD
    go_upto_block 2 with fail
    go_cut [0] from 15 to 29 (fun v0 wx => wx = w.alloc (.cells #[.bool false, .slice none 0 0, .bool false, .bool false] 46) ∧ ∃ S : ByteArray, v0 = .string S ∧ S.size ≤ 1000 ∧ S.data.toList = strip s.data.toList)
    case first =>
      go_wp2_with fail
      go_loopg [0] S1.size (fun g v0 wx => wx = w.alloc (.cells #[.bool false, .slice none 0 0, .bool false, .bool false] 46) ∧ ∃ T : ByteArray, v0 = .string T ∧ T.size = g ∧ g ≤ 1000 ∧ stripR T.data.toList = strip s.data.toList)
      case atStart => exact ⟨rfl, S1, rfl, rfl, hS1, by rw [strip_eq, HD.out]⟩
      case round =>
        obtain ⟨rfl, T, rfl, hg, hg4, hT⟩ := hrel
        have HT := Lib.hid hT
        clear hT
        by_cases hE : T.toList.isEmpty = true
        · go_wp2
          go_meet
          refine ⟨rfl, T, rfl, by omega, ?_⟩
          rw [← HT.out, (empty_iff T).1 hE]
          rfl
        have hp := size_pos hE
        have hE' : T.toList.isEmpty = false := by simpa using hE
        clear hE
        obtain ⟨j, hj⟩ : ∃ j, T.size = j + 1 := ⟨T.size - 1, by omega⟩
        have hjl : j < T.size := by omega
        have hp0 : (0 : Int) ≤ (j : Int) := by omega
        have hp1 : (j : Int) < (T.size : Int) := by omega
        have hp2 : (T.size : Int) - 1 = (j : Int) := by omega
        have hp3 : (j : Int) ≤ (T.size : Int) := by omega
        have hpw : wrap64 (j : Int) = (j : Int) := by unfold wrap64; omega
        obtain ⟨c, hc0⟩ : ∃ c, T[j] = c := ⟨_, rfl⟩
        have HC0 := Lib.hid hc0
        have hc := fun W => white_any c W
        have HJ := Lib.hid hj
        have HG := Lib.hid hg
        cases hh : wht c with
        | true =>
          simp only [hh] at hc
          have HC := Lib.hid hc
          have HN := Lib.hid (show stripR (T.extract 0 j).data.toList = strip s.data.toList by
            rw [← HT.out, Lib.extract_data, List.drop_zero, Nat.sub_zero]
            unfold stripR
            conv => rhs; rw [last_split T j hjl hj, List.dropWhile_cons_of_pos (by rw [hc0]; exact hh)])
          obtain ⟨g, rfl⟩ : ∃ g, gk = g + 1 := ⟨gk - 1, by omega⟩
          clear hc hh hj hg hc0
          go_wp2_with (go_at_call 106; rw [HC0.out]; refine (HC.out _).mono ?_; rintro e w' ⟨rfl, rfl⟩)
          go_roundg g
          case measure => omega
          case rel => exact ⟨rfl, T.extract 0 j, rfl, by have := HG.out; have := HJ.out; simp; omega, by omega, HN.out⟩
        | false =>
          simp only [hh] at hc
          have HC := Lib.hid hc
          have HN := Lib.hid (show T.data.toList = strip s.data.toList by
            rw [← HT.out]
            unfold stripR
            rw [last_split T j hjl hj, List.dropWhile_cons_of_neg (by rw [hc0, hh]; simp), ← last_split T j hjl hj, List.reverse_reverse])
          clear hc hh hj hg hc0
          go_wp2_with (go_at_call 106; rw [HC0.out]; refine (HC.out _).mono ?_; rintro e w' ⟨rfl, rfl⟩)
          go_meet
          exact ⟨rfl, T, rfl, by have := HG.out; omega, HN.out⟩
    case rest =>
      obtain ⟨rfl, S, rfl, hS, hT⟩ := hcut
      have HT := Lib.hid hT
      clear hT
      go_upto_region 6 with fail
      go_cut [41] from 30 to 41 (fun v41 wx => wx = w.alloc (.cells #[.bool false, .slice none 0 0, .bool false, .bool false] 46) ∧ ∃ t : Bool, v41 = .bool t ∧ ((t = false ∧ sgnOf S.data.toList = (false, S.data.toList)) ∨ (t = true ∧ ∃ (_h : 0 < S.size) (sg : Bool), (S[0].toNat = if sg then 45 else 43) ∧ sgnOf S.data.toList = (sg, (S.extract 1 S.size).data.toList))))
      case first =>
        rcases sgn_cases S with ⟨he, hsg⟩ | ⟨hp, h45, hsg⟩ | ⟨hp, h45, h43, hsg⟩ | ⟨hp, h45, h43, hsg⟩
        · have HS := Lib.hid hsg
          clear hsg
          go_wp2
          go_meet
          exact ⟨rfl, false, rfl, .inl ⟨rfl, HS.out⟩⟩
        all_goals
          have hE' : S.toList.isEmpty = false := by
            cases h : S.toList.isEmpty with
            | false => rfl
            | true => have h1 := (empty_iff S).1 h; have h2 := Lib.size_eq S; rw [h1] at h2; have h3 : S.size = 0 := h2; omega
          have hpI : (0 : Int) < (S.size : Int) := by omega
          have HS := Lib.hid hsg
          have HP := Lib.hid hp
          clear hsg
        · have g1 : (S[0].toNat : Int) = 45 := by omega
          have H45 := Lib.hid h45
          clear h45
          go_wp2
          go_meet
          exact ⟨rfl, true, rfl, .inr ⟨rfl, HP.out, true, H45.out, HS.out⟩⟩
        · have g1 : ((S[0].toNat : Int) == 45) = false := by simp; omega
          have g2 : (S[0].toNat : Int) = 43 := by omega
          have g2' : ((S[0].toNat : Int) == 43) = true := by simp; omega
          have n1 : ¬ (S[0].toNat : Int) = 45 := by omega
          have H43 := Lib.hid h43
          have G := Lib.hid (And.intro g1 g2')
          clear h45 h43
          go_wp2
          go_meet
          exact ⟨rfl, true, by first | rfl | (simp only [Value.bool.injEq, Bool.or_eq_true, beq_iff_eq]; exact .inr g2), .inr ⟨rfl, HP.out, false, H43.out, HS.out⟩⟩
        · have g1 : ((S[0].toNat : Int) == 45) = false := by simp; omega
          have g2 : ((S[0].toNat : Int) == 43) = false := by simp; omega
          have n1 : ¬ (S[0].toNat : Int) = 45 := by omega
          have n2 : ¬ (S[0].toNat : Int) = 43 := by omega
          have G := Lib.hid (And.intro g1 g2)
          clear h45 h43
          go_wp2
          go_meet
          exact ⟨rfl, false, by first | rfl | (simp only [Value.bool.injEq, Bool.or_eq_false_iff, beq_eq_false_iff_ne]; exact ⟨n1, n2⟩), .inl ⟨rfl, HS.out⟩⟩
      case rest =>
        obtain ⟨rfl, t, rfl, hor⟩ := hcut
        have HOR := Lib.hid hor
        clear hor
        go_upto_if 41 with fail
        go_cut [0, 4] from 42 to 46 (fun v0 v4 wx => wx = w.alloc (.cells #[.bool false, .slice none 0 0, .bool false, .bool false] 46) ∧ ∃ (X : ByteArray) (sg : Bool), v0 = .string X ∧ v4 = .bool sg ∧ X.size ≤ 1000 ∧ sgnOf S.data.toList = (sg, X.data.toList))
        case first =>
          cases t with
          | false =>
            have HS := Lib.hid (show sgnOf S.data.toList = (false, S.data.toList) by
              rcases HOR.out with ⟨_, h⟩ | ⟨h, _⟩
              · exact h
              · cases h)
            go_wp2
            go_meet
            exact ⟨rfl, S, false, rfl, rfl, hS, HS.out⟩
          | true =>
            obtain ⟨hp, sg, hc, hsg⟩ : ∃ (_h : 0 < S.size) (sg : Bool), (S[0].toNat = if sg then 45 else 43) ∧ sgnOf S.data.toList = (sg, (S.extract 1 S.size).data.toList) := by
              rcases HOR.out with ⟨h, _⟩ | ⟨_, h⟩
              · cases h
              · exact h
            have HS := Lib.hid hsg
            have hpI : (0 : Int) < (S.size : Int) := by omega
            have hpI1 : (1 : Int) ≤ (S.size : Int) := by omega
            clear hsg
            cases sg with
            | true =>
              have g1 : (S[0].toNat : Int) = 45 := by simp at hc; omega
              clear hc
              go_wp2
              go_meet
              exact ⟨rfl, S.extract 1 S.size, true, rfl, by first | rfl | simp [g1], by simp; omega, HS.out⟩
            | false =>
              have g1 : (S[0].toNat : Int) = 43 := by simp at hc; omega
              clear hc
              go_wp2
              go_meet
              exact ⟨rfl, S.extract 1 S.size, false, rfl, by first | rfl | simp [g1], by simp; omega, HS.out⟩
        case rest =>
          obtain ⟨rfl, X, sg, rfl, rfl, hX, hsg⟩ := hcut
          have HSG := Lib.hid (show (sgnOf (strip s.data.toList)).1 = sg ∧ (sgnOf (strip s.data.toList)).2 = X.data.toList by rw [← HT.out, hsg]; exact ⟨rfl, rfl⟩)
          clear hsg
          rcases bas_cases X with ⟨hp, hb⟩ | ⟨hp, h0, hb⟩ | ⟨hp, h0, h1, hb⟩ | ⟨hp, h0, h1, hb⟩ | ⟨hp, h0, h1, hb⟩ | ⟨hp, h0, h1, h2, h3, hb⟩
          · have HB := Lib.hid hb
            have hof : ∀ W, Calls Tryd.prog 96 #[.string X, .int .i64 10, .bool sg] W fun e w' => OfIs W.heap.size 10 sg (X).data.toList w' e ∧ Below W.heap.size W w' := fun W => ofDigits_any X 10 sg W hX (by omega) (by omega)
            have HO := Lib.hid hof
            have hpI : ¬ (1 : Int) < (X.size : Int) := by omega
            have hpN : ¬ 1 < X.size := by omega
            clear hb hof
            go_wp2_with (go_at_call 96; refine (HO.out _).mono ?_; rintro e w3 ⟨hofis, hb3⟩; obtain ⟨sb, av, nv, cv, lg, od, tt, rfl, hfar⟩ := hofis.form; have hz3 := hb3.size; obtain ⟨q0, q1, q2, q3, q4, q5, q6, q7⟩ := ((Has.new w 46 #[.bool false, .slice none 0 0, .bool false, .bool false]).below hb3).four)
            refine bodyPost_ret (v := .tuple #[.agg #[.bool sb, .slice av nv cv, .bool lg, .bool od], .bool tt]) (by simp [results, Tryd.results57, go_sem, World.cell?_setCell_same', q0, q1, q2, q3]) rfl ⟨parseIs_of HSG.out.1 (by rw [HSG.out.2]; exact HB.out) ((hfar w.heap.size _ _ _ _ (by simp)).mono (by simp)), Below.four (((Below.refl w.heap.size w).alloc (Nat.le_refl _) _).trans (hb3.mono (by simp))) (Nat.le_refl _) _ _ _ _⟩
          · have HB := Lib.hid hb
            have hof : ∀ W, Calls Tryd.prog 96 #[.string X, .int .i64 10, .bool sg] W fun e w' => OfIs W.heap.size 10 sg (X).data.toList w' e ∧ Below W.heap.size W w' := fun W => ofDigits_any X 10 sg W hX (by omega) (by omega)
            have HO := Lib.hid hof
            have hpI : (1 : Int) < (X.size : Int) := by omega
            have hpJ : (2 : Int) ≤ (X.size : Int) := by omega
            have g0 : ((X[0].toNat : Int) == 48) = false := by simp; omega
            have g0' : ¬ (X[0].toNat : Int) = 48 := by omega
            clear hb hof
            go_wp2_with (go_at_call 96; refine (HO.out _).mono ?_; rintro e w3 ⟨hofis, hb3⟩; obtain ⟨sb, av, nv, cv, lg, od, tt, rfl, hfar⟩ := hofis.form; have hz3 := hb3.size; obtain ⟨q0, q1, q2, q3, q4, q5, q6, q7⟩ := ((Has.new w 46 #[.bool false, .slice none 0 0, .bool false, .bool false]).below hb3).four)
            refine bodyPost_ret (v := .tuple #[.agg #[.bool sb, .slice av nv cv, .bool lg, .bool od], .bool tt]) (by simp [results, Tryd.results57, go_sem, World.cell?_setCell_same', q0, q1, q2, q3]) rfl ⟨parseIs_of HSG.out.1 (by rw [HSG.out.2]; exact HB.out) ((hfar w.heap.size _ _ _ _ (by simp)).mono (by simp)), Below.four (((Below.refl w.heap.size w).alloc (Nat.le_refl _) _).trans (hb3.mono (by simp))) (Nat.le_refl _) _ _ _ _⟩
          · have HB := Lib.hid hb
            have hof : ∀ W, Calls Tryd.prog 96 #[.string (X.extract 2 X.size), .int .i64 16, .bool sg] W fun e w' => OfIs W.heap.size 16 sg ((X.extract 2 X.size)).data.toList w' e ∧ Below W.heap.size W w' := fun W => ofDigits_any (X.extract 2 X.size) 16 sg W (by simp; omega) (by omega) (by omega)
            have HO := Lib.hid hof
            have hpI : (1 : Int) < (X.size : Int) := by omega
            have hpJ : (2 : Int) ≤ (X.size : Int) := by omega
            have g0 : (X[0].toNat : Int) = 48 := by omega
            have g1 : (X[1].toNat : Int) = 120 := by omega
            clear hb hof
            go_wp2_with (go_at_call 96; refine (HO.out _).mono ?_; rintro e w3 ⟨hofis, hb3⟩; obtain ⟨sb, av, nv, cv, lg, od, tt, rfl, hfar⟩ := hofis.form; have hz3 := hb3.size; obtain ⟨q0, q1, q2, q3, q4, q5, q6, q7⟩ := ((Has.new w 46 #[.bool false, .slice none 0 0, .bool false, .bool false]).below hb3).four)
            refine bodyPost_ret (v := .tuple #[.agg #[.bool sb, .slice av nv cv, .bool lg, .bool od], .bool tt]) (by simp [results, Tryd.results57, go_sem, World.cell?_setCell_same', q0, q1, q2, q3]) rfl ⟨parseIs_of HSG.out.1 (by rw [HSG.out.2]; exact HB.out) ((hfar w.heap.size _ _ _ _ (by simp)).mono (by simp)), Below.four (((Below.refl w.heap.size w).alloc (Nat.le_refl _) _).trans (hb3.mono (by simp))) (Nat.le_refl _) _ _ _ _⟩
          · have HB := Lib.hid hb
            have hof : ∀ W, Calls Tryd.prog 96 #[.string (X.extract 2 X.size), .int .i64 8, .bool sg] W fun e w' => OfIs W.heap.size 8 sg ((X.extract 2 X.size)).data.toList w' e ∧ Below W.heap.size W w' := fun W => ofDigits_any (X.extract 2 X.size) 8 sg W (by simp; omega) (by omega) (by omega)
            have HO := Lib.hid hof
            have hpI : (1 : Int) < (X.size : Int) := by omega
            have hpJ : (2 : Int) ≤ (X.size : Int) := by omega
            have g0 : (X[0].toNat : Int) = 48 := by omega
            have g1 : (X[1].toNat : Int) = 111 := by omega
            clear hb hof
            go_wp2_with (go_at_call 96; refine (HO.out _).mono ?_; rintro e w3 ⟨hofis, hb3⟩; obtain ⟨sb, av, nv, cv, lg, od, tt, rfl, hfar⟩ := hofis.form; have hz3 := hb3.size; obtain ⟨q0, q1, q2, q3, q4, q5, q6, q7⟩ := ((Has.new w 46 #[.bool false, .slice none 0 0, .bool false, .bool false]).below hb3).four)
            refine bodyPost_ret (v := .tuple #[.agg #[.bool sb, .slice av nv cv, .bool lg, .bool od], .bool tt]) (by simp [results, Tryd.results57, go_sem, World.cell?_setCell_same', q0, q1, q2, q3]) rfl ⟨parseIs_of HSG.out.1 (by rw [HSG.out.2]; exact HB.out) ((hfar w.heap.size _ _ _ _ (by simp)).mono (by simp)), Below.four (((Below.refl w.heap.size w).alloc (Nat.le_refl _) _).trans (hb3.mono (by simp))) (Nat.le_refl _) _ _ _ _⟩
          · have HB := Lib.hid hb
            have hof : ∀ W, Calls Tryd.prog 96 #[.string (X.extract 2 X.size), .int .i64 2, .bool sg] W fun e w' => OfIs W.heap.size 2 sg ((X.extract 2 X.size)).data.toList w' e ∧ Below W.heap.size W w' := fun W => ofDigits_any (X.extract 2 X.size) 2 sg W (by simp; omega) (by omega) (by omega)
            have HO := Lib.hid hof
            have hpI : (1 : Int) < (X.size : Int) := by omega
            have hpJ : (2 : Int) ≤ (X.size : Int) := by omega
            have g0 : (X[0].toNat : Int) = 48 := by omega
            have g1 : (X[1].toNat : Int) = 98 := by omega
            clear hb hof
            go_wp2_with (go_at_call 96; refine (HO.out _).mono ?_; rintro e w3 ⟨hofis, hb3⟩; obtain ⟨sb, av, nv, cv, lg, od, tt, rfl, hfar⟩ := hofis.form; have hz3 := hb3.size; obtain ⟨q0, q1, q2, q3, q4, q5, q6, q7⟩ := ((Has.new w 46 #[.bool false, .slice none 0 0, .bool false, .bool false]).below hb3).four)
            refine bodyPost_ret (v := .tuple #[.agg #[.bool sb, .slice av nv cv, .bool lg, .bool od], .bool tt]) (by simp [results, Tryd.results57, go_sem, World.cell?_setCell_same', q0, q1, q2, q3]) rfl ⟨parseIs_of HSG.out.1 (by rw [HSG.out.2]; exact HB.out) ((hfar w.heap.size _ _ _ _ (by simp)).mono (by simp)), Below.four (((Below.refl w.heap.size w).alloc (Nat.le_refl _) _).trans (hb3.mono (by simp))) (Nat.le_refl _) _ _ _ _⟩
          · have HB := Lib.hid hb
            have hof : ∀ W, Calls Tryd.prog 96 #[.string X, .int .i64 10, .bool sg] W fun e w' => OfIs W.heap.size 10 sg (X).data.toList w' e ∧ Below W.heap.size W w' := fun W => ofDigits_any X 10 sg W hX (by omega) (by omega)
            have HO := Lib.hid hof
            have hpI : (1 : Int) < (X.size : Int) := by omega
            have hpJ : (2 : Int) ≤ (X.size : Int) := by omega
            have g0 : (X[0].toNat : Int) = 48 := by omega
            have g1 : ((X[1].toNat : Int) == 120) = false := by simp; omega
            have g1' : ¬ (X[1].toNat : Int) = 120 := by omega
            have g2 : ((X[1].toNat : Int) == 111) = false := by simp; omega
            have g2' : ¬ (X[1].toNat : Int) = 111 := by omega
            have g3 : ((X[1].toNat : Int) == 98) = false := by simp; omega
            have g3' : ¬ (X[1].toNat : Int) = 98 := by omega
            clear hb hof
            go_wp2_with (go_at_call 96; refine (HO.out _).mono ?_; rintro e w3 ⟨hofis, hb3⟩; obtain ⟨sb, av, nv, cv, lg, od, tt, rfl, hfar⟩ := hofis.form; have hz3 := hb3.size; obtain ⟨q0, q1, q2, q3, q4, q5, q6, q7⟩ := ((Has.new w 46 #[.bool false, .slice none 0 0, .bool false, .bool false]).below hb3).four)
            refine bodyPost_ret (v := .tuple #[.agg #[.bool sb, .slice av nv cv, .bool lg, .bool od], .bool tt]) (by simp [results, Tryd.results57, go_sem, World.cell?_setCell_same', q0, q1, q2, q3]) rfl ⟨parseIs_of HSG.out.1 (by rw [HSG.out.2]; exact HB.out) ((hfar w.heap.size _ _ _ _ (by simp)).mono (by simp)), Below.four (((Below.refl w.heap.size w).alloc (Nat.le_refl _) _).trans (hb3.mono (by simp))) (Nat.le_refl _) _ _ _ _⟩
end Go.Proofs.YtmnibfdenmeepaaDoor
/- text of a number; the sum, the opposite, the difference of numbers. -/
namespace Go.Proofs.YtmnibfdenmeepaaDoor
open Go.RowKit Go.Shelf Big

/-- The text of a sign and a size. -/
def txtS (s : Bool) (n : Nat) : List UInt8 := if s && decide (0 < n) then 45 :: digs 10 n else digs 10 n
theorem txtS_sg (s : Bool) (n : Nat) : txtS s n = txt (sgI s n) := by
  unfold txtS txt sgI
  cases s
  · simp
  · by_cases h : 0 < n
    · simp [h]
    · have : n = 0 := by omega
      subst this
      simp
def TextIs (l s : Bool) (n : Nat) (e : Ending) : Prop :=
  ((l || tooL n) = true ∧ e = .returned (.tuple #[.string ⟨#[]⟩, .int .i64 4])) ∨ ((l || tooL n) = false ∧ e = .returned (.tuple #[.string ⟨(txtS s n).toArray⟩, .int .i64 0]))

theorem digits_any (B : Nat) (va : Value) (b n : Nat) (w : World) (ha : NatIs w B va n) (hb : 2 ≤ b) (hb2 : b ≤ 36) (hla : (lims 4294967296 n).length ≤ 100000) (hN : (lims b n).length ≤ 4000000) :
    Calls Tryd.prog 93 #[va, .int .i64 (b : Int)] w fun e w' => e = .returned (.string ⟨(digs b n).toArray⟩) ∧ Below w.heap.size w w' := by
  rcases Nat.eq_zero_or_pos n with rfl | hn
  · exact digits_zero B va b w ha
  · exact digits_pos B va b n w ha hn hb hb2 hla hN
theorem digs_len {b n k : Nat} (h : (lims b n).length ≤ k) : (digs b n).length ≤ k + 1 := by
  unfold digs
  split
  · simp
  · simp; omega
theorem lims10_short {n : Nat} (h : tooL n = false) : (lims 10 n).length ≤ 4000000 := by
  unfold tooL lim600 at h
  have h1 := of_decide_eq_false h
  have := (lims_len_le (B := 10) (by omega) n k600).2 (Nat.lt_of_not_le h1)
  have h2 : k600 = 600 := rfl
  omega

set_option maxRecDepth 100000 in
set_option maxHeartbeats 4000000 in
theorem text_any (B n : Nat) (v : Value) (s l o : Bool) (w : World) (h : NatIs w B v n) (hl : (lims 4294967296 n).length ≤ 100000) :
    Calls Tryd.prog 71 #[.agg #[.bool s, v, .bool l, .bool o]] w fun e w' => TextIs l s n e ∧ Below w.heap.size w w' := by
  have hkeep : ∀ o, NatIs (w.alloc o) B v n := fun o => World.ownsRow.alloc h o
  have hpos : (0 < n ∧ 0 < (lims 4294967296 n).length) ∨ (n = 0 ∧ (lims 4294967296 n).length = 0) := by
    have : (lims 4294967296 n).length = 0 ↔ n = 0 := by rw [List.length_eq_zero_iff, lims_nil w32_ge]
    omega
  obtain ⟨av, cv, rfl⟩ := h.slice
  obtain ⟨lv, hlv⟩ : ∃ lv, (lims 4294967296 n).length = lv := ⟨_, rfl⟩
  rw [hlv] at hkeep hpos hl ⊢
  have HLV := Lib.hid hlv
  clear h hlv
  have HK := Lib.hid hkeep
  clear hkeep
  have hb0 : ∀ o, Below w.heap.size w (w.alloc o) := fun o => (Below.refl _ w).alloc (Nat.le_refl _) o
  have HB := Lib.hid hb0
  clear hb0
  cases l with
  | true =>
    go_enter Tryd.func71, Tryd.ntmps71
    go_wp2
    go_ret2
    exact ⟨.inl ⟨rfl, rfl⟩, HB.out _⟩
  | false =>
    cases ht : tooL n with
    | true =>
      have HT := Lib.hid ht
      go_enter Tryd.func71, Tryd.ntmps71
      go_wp2_with (go_at_call 113; refine (tooLong_any _ _ _ _ (HK.out _) (by rw [HLV.out]; exact hl)).mono ?_; rintro e w1 ⟨rfl, hb1⟩; have hz1 := hb1.size; rw [HT.out])
      go_ret2
      exact ⟨.inl ⟨by rw [HT.out]; rfl, rfl⟩, (HB.out _).trans (hb1.mono (by simp))⟩
    | false =>
      have HT := Lib.hid ht
      have HD := Lib.hid (lims10_short ht)
      clear ht
      have hdl : (digs 10 n).length ≤ 4000001 := digs_len HD.out
      have hcase : (s = true ∧ 0 < n ∧ 0 < lv) ∨ (s = false) ∨ (s = true ∧ n = 0 ∧ lv = 0) := by
        cases s
        · exact .inr (.inl rfl)
        · rcases hpos with ⟨a, b⟩ | ⟨a, b⟩
          · exact .inl ⟨rfl, a, b⟩
          · exact .inr (.inr ⟨rfl, a, b⟩)
      clear hpos
      rcases hcase with ⟨rfl, hn, hl0⟩ | rfl | ⟨rfl, hn, hl1⟩
      case' inl =>
        have HX := Lib.hid (show (⟨#[45]⟩ : ByteArray) ++ ⟨(digs 10 n).toArray⟩ = ⟨(txtS true n).toArray⟩ by
          apply ByteArray.ext
          unfold txtS
          simp [hn])
      case' inr.inl =>
        have HX := Lib.hid (show (⟨(digs 10 n).toArray⟩ : ByteArray) = ⟨(txtS false n).toArray⟩ by unfold txtS; simp)
      case' inr.inr =>
        have hl0 : decide (0 < lv) = false := by simp; omega
        have hl2 : decide ((0 : Int) < (lv : Int)) = false := by simp; omega
        have HX := Lib.hid (show (⟨(digs 10 n).toArray⟩ : ByteArray) = ⟨(txtS true n).toArray⟩ by unfold txtS; simp [hn])
        clear hn hl1
      all_goals
        go_enter Tryd.func71, Tryd.ntmps71
        go_wp2_with (first
          | (go_at_call 113; refine (tooLong_any _ _ _ _ (HK.out _) (by rw [HLV.out]; exact hl)).mono ?_; rintro e w1 ⟨rfl, hb1⟩; have hz1 := hb1.size; rw [HT.out]; have hk1 := NatIs.kept (HK.out _) hb1; obtain ⟨q0, q1, q2, q3, q4, q5, q6, q7⟩ := ((Has.new w 46 _).below hb1).four)
          | (go_at_call 93; refine (digits_any _ _ 10 n _ hk1 (by omega) (by omega) (by rw [HLV.out]; exact hl) HD.out).mono ?_; rintro e w2 ⟨rfl, hb2⟩))
        go_ret2
        refine ⟨.inr ⟨by rw [HT.out]; rfl, ?_⟩, (HB.out _).trans ((hb1.trans (hb2.mono hz1)).mono (by simp))⟩
        rw [← HX.out]
        rfl
end Go.Proofs.YtmnibfdenmeepaaDoor
