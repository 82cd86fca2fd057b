/- The library's contracts, laid at this program: tables of numbers, and the facts that they want. -/
import Derived.Test.YtogdogadejjmeaaProg
import Derived.Shelf.Strings.IndexAnyAll
namespace Go.Proofs
open Go.Shelf
def Try.contAny_ren : Go.Shelf.Ren := ⟨fun | 150 => 50 | 153 => 59 | 152 => 64 | 226 => 65 | 227 => 66 | 228 => 67 | 137 => 68 | 119 => 69 | 224 => 70 | 225 => 71 | 217 => 72 | 266 => 73 | n => n, fun | 9 => 9 | 4 => 4 | 3 => 3 | 5 => 5 | 21 => 21 | 117 => 96 | 116 => 95 | 0 => 0 | 46 => 61 | 124 => 102 | n => n, fun | n => n⟩
theorem Try.contAny : Go.Proofs.Lays.n150 Try.prog Try.contAny_ren := {
  mixed := by kernel_rfl
  f119 := Try.func69.trans (congrArg some (by kernel_rfl))
  f137 := Try.func68.trans (congrArg some (by kernel_rfl))
  f150 := Try.func50.trans (congrArg some (by kernel_rfl))
  f152 := Try.func64.trans (congrArg some (by kernel_rfl))
  f153 := Try.func59.trans (congrArg some (by kernel_rfl))
  f217 := Try.func72.trans (congrArg some (by kernel_rfl))
  f224 := Try.func70.trans (congrArg some (by kernel_rfl))
  f225 := Try.func71.trans (congrArg some (by kernel_rfl))
  f226 := Try.func65.trans (congrArg some (by kernel_rfl))
  f227 := Try.func66.trans (congrArg some (by kernel_rfl))
  f228 := Try.func67.trans (congrArg some (by kernel_rfl))
  f266 := Try.func73.trans (congrArg some (by kernel_rfl))
  t0 := Try.underlying0
  a0 := Try.isAgg0
  z0 := Try.sizeOf0
  v0 := Try.zeroValue0
  t3 := Try.underlying3
  a3 := Try.isAgg3
  z3 := Try.sizeOf3
  v3 := Try.zeroValue3
  t4 := Try.underlying4
  a4 := Try.isAgg4
  z4 := Try.sizeOf4
  v4 := Try.zeroValue4
  t5 := Try.underlying5
  a5 := Try.isAgg5
  z5 := Try.sizeOf5
  v5 := Try.zeroValue5
  t9 := Try.underlying9
  a9 := Try.isAgg9
  z9 := Try.sizeOf9
  v9 := Try.zeroValue9
  t21 := Try.underlying21
  a21 := Try.isAgg21
  z21 := Try.sizeOf21
  v21 := Try.zeroValue21
  t46 := Try.underlying61
  a46 := Try.isAgg61
  z46 := Try.sizeOf61
  v46 := Try.zeroValue61
  t116 := Try.underlying95
  a116 := Try.isAgg95
  z116 := Try.sizeOf95
  t117 := Try.underlying96
  a117 := Try.isAgg96
  z117 := Try.sizeOf96
  v117 := Try.zeroValue96
  t124 := Try.underlying102
  a124 := Try.isAgg102
  z124 := Try.sizeOf102
  v124 := Try.zeroValue102 }
end Go.Proofs
